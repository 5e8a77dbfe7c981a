/-
  start, digest by contract.
-/
import Derived.Test.YtjdbmjkidljhpaaDoorTurn
import Derived.Test.YtjdbmjkidljhpaaDoorRow
namespace Go.Proofs.YtjdbmjkidljhpaaDoor
open Go.RowKit
set_option linter.unusedVariables false
set_option linter.unusedSimpArgs false

theorem size28 : (Tryd.prog.info? 28).map (·.size) = some 32 := by kernel_rfl

set_option maxRecDepth 100000 in
set_option maxHeartbeats 1000000 in
theorem start_any (w : World) : Calls Tryd.prog 65 #[] w fun e w' => e = .returned s0.val ∧ Kept (fun _ => False) w w' := by
  go_enter Tryd.func65, Tryd.ntmps65
  go_wp2
  refine bodyPost_ret (v := s0.val) ?_ rfl ⟨rfl, (Kept.refl _ _).alloc _⟩
  exact results_cell_row (by rfl) _ _ w.heap.size 96 _ (0, 0) _ (by rfl) (alloc_new _ _ rfl) Tryd.underlying96 rfl size48

theorem dig_length (s : S8) : (dig s).length = 32 := by simp [dig]

set_option maxRecDepth 100000 in
set_option maxHeartbeats 1000000 in
theorem digest_any (s : S8) (w : World) : Calls Tryd.prog 57 #[.agg #[.int .u32 s.a, .int .u32 s.b, .int .u32 s.c, .int .u32 s.d, .int .u32 s.e, .int .u32 s.f, .int .u32 s.g, .int .u32 s.h]] w fun e w' => e = .returned (.agg ((dig s).map (Value.int .u8)).toArray) ∧ Kept (fun _ => False) w w' := by
  go_enter Tryd.func57, Tryd.ntmps57
  go_wp2
  go_loopw [5] (fun i wr => ∃ k : Nat, k ≤ 32 ∧ i = .int .i64 k ∧ Row wr w.heap.size 96 .u32 8 8 (fun j => s.list.getD j 0) ∧ Row wr (w.heap.size + 1) 28 .u8 32 0 (fun _ => 0) ∧ Row wr (w.heap.size + 1 + 1) 28 .u8 32 k (fun j => (dig s).getD j 0) ∧ Kept (fun _ => False) w wr) (fun i _ => 32 - (intOf i).toNat)
  case atStart =>
    refine ⟨0, by omega, rfl, ⟨_, alloc_old (alloc_old (alloc_new _ _ rfl)), rfl, fun j hj => ?_⟩, ⟨_, alloc_old (alloc_new _ _ (by simp)), rfl, fun j hj => absurd hj (by omega)⟩, ⟨_, alloc_new _ _ (by simp), rfl, fun j hj => absurd hj (by omega)⟩, (((Kept.refl _ _).alloc _).alloc _).alloc _⟩
    match j, hj with
    | 0, _ => rfl
    | 1, _ => rfl
    | 2, _ => rfl
    | 3, _ => rfl
    | 4, _ => rfl
    | 5, _ => rfl
    | 6, _ => rfl
    | 7, _ => rfl
  case round =>
    obtain ⟨k, hk, rfl, hS, hO, hD, hK⟩ := hrel
    by_cases hlt : k < 32
    · have hc := hS.cell (k := k / 4) (by omega)
      obtain ⟨⟨u, hu⟩, hf⟩ := hD.there (k := k) hlt
      have hdg : (dig s).getD k 0 = s.list.getD (k / 4) 0 / 2 ^ (24 - k % 4 * 8) % 256 := by simp [dig, List.getD, hlt, dbyte]
      generalize s.list.getD (k / 4) 0 = v at *
      have H2 : Hid (Row (wr.setCell ⟨w.heap.size + 1 + 1, k, none⟩ (.int .u8 (v / 2 ^ (24 - k % 4 * 8) % 256))) (w.heap.size + 1 + 1) 28 .u8 32 (k + 1) (fun j => (dig s).getD j 0)) := hD.set hlt _ hdg (fun j hj hne => ⟨by omega, rfl⟩)
      have H0 : Hid (∀ x, Row (wr.setCell ⟨w.heap.size + 1 + 1, k, none⟩ x) w.heap.size 96 .u32 8 8 (fun j => s.list.getD j 0)) := fun x => hS.other _ _ (by show _ ≠ w.heap.size + 1 + 1; omega)
      have H1 : Hid (∀ x, Row (wr.setCell ⟨w.heap.size + 1 + 1, k, none⟩ x) (w.heap.size + 1) 28 .u8 32 0 (fun _ => 0)) := fun x => hO.other _ _ (by show _ ≠ w.heap.size + 1 + 1; omega)
      have HK : Hid (∀ x, Kept (fun _ => False) w (wr.setCell ⟨w.heap.size + 1 + 1, k, none⟩ x)) := fun x => hK.setCell (.inl (by show _ ≤ w.heap.size + 1 + 1; omega)) _
      clear hS hO hD hK hdg
      have hkI : (k : Int) < 32 := by omega
      go_wp2
      go_roundw
      case rel => exact ⟨k + 1, by omega, by go_num, H0.out _, H1.out _, H2.out, HK.out _⟩
      case measure => simp [intOf]; omega
    · obtain rfl : k = 32 := by omega
      obtain ⟨cur, hB, hsz, hcur⟩ := hD
      obtain rfl := row_list hsz (dig_length s) hcur
      obtain ⟨old, hO, hosz, _⟩ := hO
      have h1 := oneCells .u8 (dig s)
      have hs28 : (Tryd.prog.info? 28).map (·.size) = some ((dig s).map (Value.int .u8)).toArray.size := by simp [size28, dig_length]
      have hos : old.size = ((dig s).map (Value.int .u8)).toArray.size := by simp [hosz, dig_length]
      have HKR : Hid (Kept (fun _ => False) w (wr.setRow (w.heap.size + 1) ((dig s).map (Value.int .u8)).toArray)) := hK.setRow (.inl (by omega)) _
      have HRR := hid_of (setRow_heap wr (w.heap.size + 1) old ((dig s).map (Value.int .u8)).toArray 28 (0, 0) hO)
      clear hcur hsz hosz hK hS
      generalize hcs : ((dig s).map (Value.int .u8)).toArray = cs at *
      have HC := hid_of hcs
      clear hcs
      go_wp2_with (first | refine wpList_load_row rfl 28 _ rfl (w.heap.size + 1 + 1) rfl 28 cs (0, 0) _ hB Tryd.underlying28 rfl hs28 ?_ | refine wpList_store_row rfl 28 _ _ rfl (w.heap.size + 1) cs rfl rfl 28 old hO hs28 hos h1 ?_)
      refine bodyPost_ret (v := .agg cs) ?_ rfl ⟨by rw [HC.out], HKR.out⟩
      exact results_cell_row (by rfl) _ _ (w.heap.size + 1) 28 cs (0, 0) _ (by rfl) HRR.out Tryd.underlying28 rfl hs28
end Go.Proofs.YtjdbmjkidljhpaaDoor

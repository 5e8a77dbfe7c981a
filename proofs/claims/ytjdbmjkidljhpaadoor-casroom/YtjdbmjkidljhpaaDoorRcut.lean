/-
  Cut of the reference, where the width is one.
-/
import Derived.Test.YtjdbmjkidljhpaaDoorRcutA
namespace Go.Proofs.YtjdbmjkidljhpaaDoor
open Go.RowKit
set_option linter.unusedVariables false
set_option maxRecDepth 100000
set_option linter.unusedSimpArgs false

/-- Place j, where the zeros from k on stand as far as i. -/
def cutf (d : List Int) (k i j : Nat) : Int := if k ≤ j ∧ j < i then 0 else d.getD j 0
theorem cutf_end (d : List Int) (k : Nat) (hl : d.length = 32) (hk : k ≤ 32) (j : Nat) (hj : j < 32) : (cutL d k).getD j 0 = cutf d k 32 j := by
  unfold cutL cutf
  by_cases h : j < k
  · rw [if_neg (by omega), List.getD, List.getElem?_append_left (by simp [hl]; omega), List.getElem?_take_of_lt h]
    rfl
  · rw [if_pos ⟨by omega, hj⟩, List.getD, List.getElem?_append_right (by simp [hl]; omega)]
    rw [List.getElem?_replicate]
    split <;> rfl

set_option maxRecDepth 100000 in
set_option maxHeartbeats 1000000 in
theorem rcut_ok (d : List Int) (k : Nat) (hl : d.length = 32) (h1 : 1 ≤ k) (h2 : k ≤ 32) (w : World) :
    Calls Tryd.prog 40 #[.agg (d.map (Value.int .u8)).toArray, .int .i64 (k : Int)] w fun e w' => e = .returned (.tuple #[.agg ((cutL d k).map (Value.int .u8)).toArray, .int .i64 0]) ∧ Kept (fun _ => False) w w' := by
  have hkI : ¬ (k : Int) < 1 := by omega
  have hkJ : ¬ 32 < (k : Int) := by omega
  have R0 : Hid (∀ o : Obj, Row ((w.alloc (.cells (d.map (Value.int .u8)).toArray 57)).alloc o) w.heap.size 57 .u8 32 32 (cutf d k k)) := fun o => ⟨_, alloc_old (alloc_new _ _ rfl), by simp [hl], fun j hj => by
    unfold cutf
    rw [if_neg (by omega)]
    simp [List.getD, List.getElem?_eq_getElem (show j < d.length by omega)]⟩
  generalize hds : (d.map (Value.int .u8)).toArray = ds at *
  clear hds
  go_enter Tryd.func40, Tryd.ntmps40
  go_wp2
  go_loopw [6] (fun i wr => ∃ m : Nat, k ≤ m ∧ m ≤ 32 ∧ i = .int .i64 m ∧ Row wr w.heap.size 57 .u8 32 32 (cutf d k m) ∧ Row wr (w.heap.size + 1) 57 .u8 32 0 (fun _ => 0) ∧ Kept (fun _ => False) w wr) (fun i _ => 32 - (intOf i).toNat)
  case atStart => exact ⟨k, Nat.le_refl _, h2, rfl, R0.out _, ⟨_, alloc_new _ _ (by simp), rfl, fun j hj => absurd hj (by omega)⟩, ((Kept.refl _ w).alloc _).alloc _⟩
  case round =>
    clear R0
    obtain ⟨m, hm, hm2, rfl, hR, hO, hK⟩ := hrel
    by_cases hlt : m < 32
    · obtain ⟨⟨u, hu⟩, hf⟩ := hR.there (k := m) hlt
      have HS : Hid (Row (wr.setCell ⟨w.heap.size, m, none⟩ (.int .u8 0)) w.heap.size 57 .u8 32 32 (cutf d k (m + 1))) := hR.set hlt _ (by unfold cutf; rw [if_pos ⟨hm, by omega⟩]) (fun j hj hne => ⟨hj, by
        unfold cutf
        by_cases h : k ≤ j ∧ j < m
        · rw [if_pos ⟨h.1, by omega⟩, if_pos h]
        · rw [if_neg (by omega), if_neg h]⟩)
      have HO : Hid (Row (wr.setCell ⟨w.heap.size, m, none⟩ (.int .u8 0)) (w.heap.size + 1) 57 .u8 32 0 (fun _ => 0)) := hO.other _ _ (by show _ ≠ w.heap.size; omega)
      have HK : Hid (Kept (fun _ => False) w (wr.setCell ⟨w.heap.size, m, none⟩ (.int .u8 0))) := hK.setCell (.inl (Nat.le_refl _)) _
      clear hR hO hK
      have hmI : (m : Int) < 32 := by omega
      go_wp2
      go_roundw
      case rel => exact ⟨m + 1, by omega, by omega, by go_num, HS.out, HO.out, HK.out⟩
      case measure => simp [intOf]; omega
    · obtain rfl : m = 32 := by omega
      obtain ⟨cur, hB, hsz, hcur⟩ := hR
      have hcl := cutL_length d k hl h2
      obtain rfl := row_list hsz hcl (fun j hj => (hcur j hj).trans (by rw [cutf_end d k hl h2 j hj]))
      obtain ⟨old, hO, hosz, _⟩ := hO
      have hone := oneCells .u8 (cutL d k)
      have hs31 : (Tryd.prog.info? 57).map (·.size) = some ((cutL d k).map (Value.int .u8)).toArray.size := by simp [size31, hcl]
      have hos : old.size = ((cutL d k).map (Value.int .u8)).toArray.size := by simp [hosz, hcl]
      have HKR : Hid (Kept (fun _ => False) w (wr.setRow (w.heap.size + 1) ((cutL d k).map (Value.int .u8)).toArray)) := hK.setRow (.inl (by omega)) _
      have HRR := hid_of (setRow_heap wr (w.heap.size + 1) old ((cutL d k).map (Value.int .u8)).toArray 57 (0, 0) hO)
      clear hcur hsz hosz hK
      generalize hcs : ((cutL d k).map (Value.int .u8)).toArray = cs at *
      have HC := hid_of hcs
      clear hcs
      go_wp2_with (first | refine wpList_load_row rfl 57 _ rfl w.heap.size rfl 57 cs (0, 0) _ hB Tryd.underlying57 rfl hs31 ?_ | refine wpList_store_row rfl 57 _ _ rfl (w.heap.size + 1) cs rfl rfl 57 old hO hs31 hos hone ?_)
      try simp only [Act.put]
      refine bodyPost_ret (v := .tuple #[.agg cs, .int .i64 0]) ?_ rfl ⟨by rw [HC.out], HKR.out⟩
      exact results_row_tmp (fn := Tryd.f40) (p := 4) (u := 5) (by rfl) _ _ (w.heap.size + 1) 57 cs (0, 0) _ (by rfl) HRR.out Tryd.underlying57 rfl hs31
end Go.Proofs.YtjdbmjkidljhpaaDoor

/-
  Parse by contract: the walk.
-/
import Derived.Test.YtdbogfjkaebeoaaDoorParse
namespace Go.Proofs.YtdbogfjkaebeoaaDoor
open Go.RowKit
set_option linter.unusedVariables false
set_option linter.unusedSimpArgs false

set_option maxRecDepth 100000 in
set_option maxHeartbeats 1000000 in
theorem parse_len (s : ByteArray) (hs : s.size ≠ 64) (w : World) :
    Calls Tryd.prog 29 #[.string s] w fun e w' => e = .returned (.tuple #[.agg (zeros32.map (Value.int .u8)).toArray, .int .i64 21]) ∧ Kept (fun _ => False) w w' := by
  have h1 := oneCells .u8 zeros32
  have hz28 : (Tryd.prog.info? 28).map (·.size) = some (zeros32.map (Value.int .u8)).toArray.size := by simp [size28, zeros32]
  have hsI : ¬ (s.size : Int) = 64 := by omega
  go_enter Tryd.func29, Tryd.ntmps29
  go_wp2_with (refine wpList_store_row rfl 28 _ _ rfl w.heap.size (zeros32.map (Value.int .u8)).toArray rfl rfl 28 _ (alloc_old (alloc_new _ _ rfl)) hz28 rfl h1 ?_)
  try simp only [Act.put]
  refine bodyPost_ret (v := .tuple #[.agg (zeros32.map (Value.int .u8)).toArray, .int .i64 21]) ?_ rfl ⟨rfl, (((Kept.refl _ w).alloc _).alloc _).setRow (.inl (Nat.le_refl _)) _⟩
  exact results_row_tmp (fn := Tryd.f29) (p := 2) (u := 3) (by rfl) _ _ w.heap.size 28 (zeros32.map (Value.int .u8)).toArray (0, 0) _ (by rfl) (setRow_heap _ w.heap.size _ _ 28 (0, 0) (alloc_old (alloc_new _ _ rfl))) Tryd.underlying28 rfl hz28

set_option maxRecDepth 100000 in
set_option maxHeartbeats 1000000 in
theorem parse_let (s : ByteArray) (hs : s.size = 64) (w : World) :
    Calls Tryd.prog 29 #[.string s] w fun e w' => Kept (fun _ => False) w w' ∧ ((∀ j, j < 64 → 0 ≤ hv s j) ∧ e = .returned (.tuple #[.agg ((parsed s).map (Value.int .u8)).toArray, .int .i64 0]) ∨ (∃ j, j < 64 ∧ hv s j < 0) ∧ e = .returned (.tuple #[.agg (zeros32.map (Value.int .u8)).toArray, .int .i64 21])) := by
  have h1 := oneCells .u8 zeros32
  have hz28 : (Tryd.prog.info? 28).map (·.size) = some (zeros32.map (Value.int .u8)).toArray.size := by simp [size28, zeros32]
  have hsI : (s.size : Int) = 64 := by omega
  have HX := hid_of (fun c W => index_any c W)
  have HLT := hid_of (fun k W (h : k < 64) => run_letter W s k (by omega))
  have HS := hid_of hs
  clear hs
  go_enter Tryd.func29, Tryd.ntmps29
  go_wp2_with fail
  go_loopw [13] (fun i wr => ∃ k : Nat, k ≤ 64 ∧ i = .int .i64 k ∧ (∀ j, j < k → 0 ≤ hv s j) ∧ Row wr w.heap.size 28 .u8 32 0 (fun _ => 0) ∧ Row wr (w.heap.size + 1) 28 .u8 32 32 (dAt s k) ∧ Kept (fun _ => False) w wr) (fun i _ => 64 - (intOf i).toNat)
  case atStart =>
    refine ⟨0, by omega, rfl, fun j hj => absurd hj (by omega), ⟨_, alloc_old (alloc_new _ _ rfl), rfl, fun j hj => absurd hj (by omega)⟩, ⟨(zeros32.map (Value.int .u8)).toArray, alloc_new _ _ (by simp), rfl, fun j hj => ?_⟩, ((Kept.refl _ _).alloc _).alloc _⟩
    rw [zeros32, List.map_replicate, List.getElem?_toArray, List.getElem?_replicate, if_pos hj, dAt, if_neg (by omega), if_neg (by omega)]
  case round =>
    obtain ⟨k, hk, rfl, hgood, hO, hD, hK⟩ := hrel
    by_cases hlt : k < 64
    · have hc := hD.cell (k := k / 2) (by omega)
      obtain ⟨_, hf⟩ := hD.there (k := k / 2) (by omega)
      have hx0 : 0 ≤ dAt s k (k / 2) ∧ dAt s k (k / 2) < 16 := by
        unfold dAt
        rw [if_neg (by omega)]
        split
        · exact ⟨hgood _ (by omega), half_lt _⟩
        · omega
      have hlet := fun W => HLT.out k W hlt
      have hkI : (k : Int) < 64 := by omega
      by_cases hh : hv s k < 0
      · obtain ⟨old, hO, hosz, _⟩ := hO
        have HKR : Hid (Kept (fun _ => False) w (wr.setRow w.heap.size (zeros32.map (Value.int .u8)).toArray)) := hK.setRow (.inl (by omega)) _
        have HRR := hid_of (setRow_heap wr w.heap.size old (zeros32.map (Value.int .u8)).toArray 28 (0, 0) hO)
        have HBAD := hid_of (⟨k, hlt, hh⟩ : ∃ j, j < 64 ∧ hv s j < 0)
        clear hD hK hgood hc hf hx0
        have HI := HX.out (letter s k)
        rw [show half (letter s k) = hv s k from rfl] at HI
        have HII := hid_of HI
        clear HI
        go_wp2_with fail
        refine (HII.out _).mono ?_
        rintro e w1 ⟨rfl, rfl⟩
        generalize hv s k = h at *
        clear HX HLT hlet HII
        have hos : old.size = (zeros32.map (Value.int .u8)).toArray.size := by rw [hosz]; rfl
        clear hosz
        go_wp2_with (refine wpList_store_row rfl 28 _ _ rfl w.heap.size (zeros32.map (Value.int .u8)).toArray rfl rfl 28 old hO hz28 hos h1 ?_)
        try simp only [Act.put]
        refine bodyPost_ret (v := .tuple #[.agg (zeros32.map (Value.int .u8)).toArray, .int .i64 21]) ?_ rfl ⟨HKR.out, .inr ⟨HBAD.out, rfl⟩⟩
        exact results_row_tmp (fn := Tryd.f29) (p := 2) (u := 3) (by rfl) _ _ w.heap.size 28 (zeros32.map (Value.int .u8)).toArray (0, 0) _ (by rfl) HRR.out Tryd.underlying28 rfl hz28
      · have hh0 : 0 ≤ hv s k := by omega
        have hh1 : hv s k < 16 := half_lt _
        have HI := HX.out (letter s k)
        rw [show half (letter s k) = hv s k from rfl] at HI
        have HII := hid_of HI
        have HO := hid_of hO
        have HD := hid_of hD
        have HK := hid_of hK
        have HG : Hid (∀ j, j < k + 1 → 0 ≤ hv s j) := fun j hj => by
          by_cases e : j = k
          · rw [e]; exact hh0
          · exact hgood j (by omega)
        have hor := or16 (dAt s k (k / 2)) (hv s k) hx0.1 hx0.2 hh0 hh1
        have H2 : Hid (Row (wr.setCell ⟨w.heap.size + 1, k / 2, none⟩ (.int .u8 (16 * dAt s k (k / 2) + hv s k))) (w.heap.size + 1) 28 .u8 32 32 (dAt s (k + 1))) := hD.set (by omega) _ (dAt_step s k) (fun j hj hne => ⟨hj, dAt_other s k j hne⟩)
        have H1 : Hid (∀ x, Row (wr.setCell ⟨w.heap.size + 1, k / 2, none⟩ x) w.heap.size 28 .u8 32 0 (fun _ => 0)) := fun x => hO.other _ _ (by show _ ≠ w.heap.size + 1; omega)
        have HK2 : Hid (∀ x, Kept (fun _ => False) w (wr.setCell ⟨w.heap.size + 1, k / 2, none⟩ x)) := fun x => hK.setCell (.inl (by show _ ≤ w.heap.size + 1; omega)) _
        clear HI HX HLT hO hD hK hgood HO HD HK
        go_wp2_with fail
        refine (HII.out _).mono ?_
        rintro e w1 ⟨rfl, rfl⟩
        clear HII hlet
        generalize dAt s k (k / 2) = x at *
        generalize hv s k = h at *
        go_wp2
        go_roundw
        case rel => exact ⟨k + 1, by omega, by go_num, HG.out, H1.out _, H2.out, HK2.out _⟩
        case measure => simp [intOf]; omega
    · obtain rfl : k = 64 := by omega
      obtain ⟨cur, hB, hsz, hcur⟩ := hD
      obtain rfl := row_list (l := parsed s) hsz (parsed_length s) (fun j hj => by rw [parsed_at s j hj]; exact hcur j hj)
      obtain ⟨old, hO, hosz, _⟩ := hO
      have h2 := oneCells .u8 (parsed s)
      have hs28 : (Tryd.prog.info? 28).map (·.size) = some ((parsed s).map (Value.int .u8)).toArray.size := by simp [size28, parsed_length]
      have hos : old.size = ((parsed s).map (Value.int .u8)).toArray.size := by simp [hosz, parsed_length]
      have HKR : Hid (Kept (fun _ => False) w (wr.setRow w.heap.size ((parsed s).map (Value.int .u8)).toArray)) := hK.setRow (.inl (by omega)) _
      have HRR := hid_of (setRow_heap wr w.heap.size old ((parsed s).map (Value.int .u8)).toArray 28 (0, 0) hO)
      have HG := hid_of hgood
      clear hcur hsz hosz hK hgood HX HLT
      generalize hcs : ((parsed s).map (Value.int .u8)).toArray = cs at *
      have HC := hid_of hcs
      clear hcs
      go_wp2_with (first | refine wpList_load_row rfl 28 _ rfl (w.heap.size + 1) rfl 28 cs (0, 0) _ hB Tryd.underlying28 rfl hs28 ?_ | refine wpList_store_row rfl 28 _ _ rfl w.heap.size cs rfl rfl 28 old hO hs28 hos h2 ?_)
      refine bodyPost_ret (v := .tuple #[.agg cs, .int .i64 0]) ?_ rfl ⟨HKR.out, .inl ⟨HG.out, by first | rfl | rw [HC.out]⟩⟩
      exact results_row_tmp (fn := Tryd.f29) (p := 2) (u := 3) (by rfl) _ _ w.heap.size 28 cs (0, 0) _ (by rfl) HRR.out Tryd.underlying28 rfl hs28
end Go.Proofs.YtdbogfjkaebeoaaDoor

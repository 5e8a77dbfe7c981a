/-
  The walk of SumCuts.
-/
import Derived.Test.YtdbogfjkaebeoaaDoorKnown
import Derived.Test.YtdbogfjkaebeoaaDoorFits
namespace Go.Proofs.YtdbogfjkaebeoaaDoor
open Go.RowKit
set_option linter.unusedVariables false
set_option linter.unusedSimpArgs false

set_option maxRecDepth 100000 in
set_option maxHeartbeats 1000000 in
theorem gv_row (cs : Array Value) (hsz : cs.size = 32) (h1 : cs.all (·.oneCell') = true) (w : World) :
    Calls Tryd.prog 14 #[.agg cs] w fun e w' => e = .returned (.agg cs) ∧ Kept (fun _ => False) w w' := by
  have hs28 : (Tryd.prog.info? 28).map (·.size) = some cs.size := by rw [size28, hsz]
  have hs31 : (Tryd.prog.info? 31).map (·.size) = some cs.size := by rw [size31, hsz]
  have HOS : Hid (32 = cs.size) := hsz.symm
  clear hsz
  go_enter Tryd.func14, Tryd.ntmps14
  go_wp2_with (first | refine wpList_load_row rfl 28 _ rfl w.heap.size rfl 28 cs (0, 0) _ (alloc_old (alloc_new _ _ rfl)) Tryd.underlying28 rfl hs28 ?_ | (refine wpList_store_row rfl 31 _ _ rfl (w.heap.size + 1) cs rfl rfl 31 _ (alloc_new _ _ (by simp)) hs31 HOS.out h1 ?_; rw [setRow_new _ _ _ _ (by simp)]))
  try simp only [Act.put]
  refine bodyPost_ret (v := .agg cs) ?_ rfl ⟨rfl, ((Kept.refl _ w).alloc _).alloc _⟩
  exact results_cell_row (by rfl) _ _ (w.heap.size + 1) 31 cs (0, 0) _ (by rfl) (alloc_new _ _ (by simp)) Tryd.underlying31 rfl hs31
theorem gv_any (a : List Int) (ha : a.length = 32) (w : World) :
    Calls Tryd.prog 14 #[.agg (a.map (Value.int .u8)).toArray] w fun e w' => e = .returned (.agg (a.map (Value.int .u8)).toArray) ∧ Kept (fun _ => False) w w' := gv_row _ (by simp [ha]) (oneCells _ _) w
theorem rangeL {w : World} {g : Nat} {cs : List Value} {t : TypeId} {f : Nat × Nat} (h : w.heap[g]? = some (.cells cs.toArray t f)) : w.rangeAt g 0 cs := fun j v hv => by
  rw [cell_block _ _ _ _ _ _ h, Nat.zero_add]
  simpa using hv

theorem cutL_twice (d : List Int) (k : Nat) (hl : d.length = 32) (hk : k ≤ 32) : cutL (cutL d k) k = cutL d k := by
  unfold cutL
  rw [List.take_append_of_le_length (by simp [hl]; omega), List.take_take, Nat.min_self]
theorem fits_cut (d : List Int) (width : Int) (hl : d.length = 32) : fitsL (cutR d width) width = (cutE width == 0) := by
  unfold fitsL
  by_cases h : width < 1 ∨ 32 < width
  · simp [cutE, h]
  · have : cutR (cutR d width) width = cutR d width := by
      unfold cutR
      rw [if_neg h, if_neg h]
      exact cutL_twice d _ hl (by omega)
    simp [this]

set_option maxRecDepth 100000 in
set_option maxHeartbeats 2000000 in
theorem sumCuts_walk (d : List Int) (width : Int) (hl : d.length = 32) (w : World) (hL : Laid w) :
    Calls Tryd.prog 5 #[.agg (d.map (Value.int .u8)).toArray, .int .i64 width] w fun e w' => e = .returned (.bool true) ∧ Kept (fun _ => False) w w' := by
  have hcl := cutR_length d width hl
  have HKN := hid_of (known_any (w.alloc (.cells (d.map (Value.int .u8)).toArray 28)) (laid_kept hL ((Kept.refl (fun _ => False) w).alloc _) (fun f => f)))
  have HC := hid_of (fun W => cut_any d width hl W)
  have HRC := hid_of (fun W => rcut_any d width hl W)
  have HGD := hid_of (fun W => gv_any d hl W)
  have HGC := hid_of (fun W => gv_any (cutR d width) hcl W)
  have HF := hid_of (fun W => fits_any d width hl W)
  have HRF := hid_of (fun W => rfits_any d width hl W)
  have HFC : Hid (∀ W, Calls Tryd.prog 25 #[.agg ((cutR d width).map (Value.int .u8)).toArray, .int .i64 width] W fun e w' => e = .returned (.bool (cutE width == 0)) ∧ Kept (fun _ => False) W w') := fun W => by
    have := fits_any (cutR d width) width hcl W
    rw [fits_cut d width hl] at this
    exact this
  have heq : ∀ W, (binOp .eql 31 (.agg ((cutR d width).map (Value.int .u8)).toArray) (.agg ((cutR d width).map (Value.int .u8)).toArray)).run Tryd.prog W = .ok (.bool true) W := fun W => by
    rw [run_eql32 W 31 (cutR d width) (cutR d width) Tryd.underlying31 hcl hcl]
    simp
  have hlD : (d.map (Value.int .u8)).length = 32 := by rw [List.length_map, hl]
  have hlC : ((cutR d width).map (Value.int .u8)).length = 32 := by rw [List.length_map, hcl]
  have hsD : (Tryd.prog.info? 28).map (·.size) = some (d.map (Value.int .u8)).length := by rw [size28, hlD]
  have hsC : (Tryd.prog.info? 28).map (·.size) = some ((cutR d width).map (Value.int .u8)).length := by rw [size28, hlC]
  have hsW : (Tryd.prog.info? 31).map (·.size) = some ((cutR d width).map (Value.int .u8)).length := by rw [size31, hlC]
  have hoC := oneCells .u8 (cutR d width)
  have HOS : Hid (32 = ((cutR d width).map (Value.int .u8)).length) := hlC.symm
  have hu28 := Tryd.underlying28
  have hu31 := Tryd.underlying31
  clear hl hcl hL hlD hlC
  generalize d.map (Value.int .u8) = cd at *
  generalize (cutR d width).map (Value.int .u8) = cc at *
  generalize fitsL d width = ft at *
  generalize cutE width = ev at *
  go_enter Tryd.func5, Tryd.ntmps5
  go_wp2_with fail
  refine HKN.out.mono ?_
  rintro e w1 ⟨rfl, hk1⟩
  have hD1 : w1.heap[w.heap.size]? = some (.cells cd.toArray 28 (0, 0)) := (hk1.block _ (by simp) (fun f => f)).trans (alloc_new _ _ rfl)
  have hK1 : Kept (fun _ => False) w w1 := ((Kept.refl _ w).alloc _).trans hk1
  clear hk1 HKN
  go_wp2_with (refine wpList_load_row rfl 28 _ rfl w.heap.size rfl 28 cd.toArray (0, 0) _ hD1 Tryd.underlying28 rfl hsD ?_)
  refine (HC.out _).mono ?_
  rintro e w2 ⟨rfl, hk2⟩
  have hD2 : (w2.alloc (.cells cc.toArray 28)).heap[w.heap.size]? = some (.cells cd.toArray 28 (0, 0)) := alloc_old ((hk2.block _ (heap_lt hD1) (fun f => f)).trans hD1)
  have hC2 : (w2.alloc (.cells cc.toArray 28)).heap[w2.heap.size]? = some (.cells cc.toArray 28 (0, 0)) := alloc_new _ _ rfl
  have hK2 : Kept (fun _ => False) w (w2.alloc (.cells cc.toArray 28)) := (hK1.trans hk2).alloc _
  clear hk2 hD1 hK1 HC
  have hg2 : ∃ g, g = w2.heap.size := ⟨_, rfl⟩
  obtain ⟨gc, hgc⟩ := hg2
  have HGC2 := hid_of hgc
  clear hgc
  go_wp2_with (first | (refine wpList_store_row rfl 28 _ _ rfl w2.heap.size cc.toArray rfl rfl 28 _ (alloc_new _ _ rfl) hsC HOS.out hoC ?_; rw [setRow_new _ _ _ _ rfl]) | refine wpList_load_row rfl 28 _ rfl w.heap.size rfl 28 cd.toArray (0, 0) _ hD2 Tryd.underlying28 rfl hsD ?_)
  refine (HGD.out _).mono ?_
  rintro e w3 ⟨rfl, hk3⟩
  have hD3 := (hk3.block _ (heap_lt hD2) (fun f => f)).trans hD2
  have hC3 := (hk3.block _ (heap_lt hC2) (fun f => f)).trans hC2
  have hK3 := hK2.trans hk3
  clear hk3 hD2 hC2 hK2
  go_wp2_with fail
  refine (HRC.out _).mono ?_
  rintro e w4 ⟨rfl, hk4⟩
  have hD4 : (w4.alloc (.cells cc.toArray 31)).heap[w.heap.size]? = some (.cells cd.toArray 28 (0, 0)) := alloc_old ((hk4.block _ (heap_lt hD3) (fun f => f)).trans hD3)
  have hC4 : (w4.alloc (.cells cc.toArray 31)).heap[w2.heap.size]? = some (.cells cc.toArray 28 (0, 0)) := alloc_old ((hk4.block _ (heap_lt hC3) (fun f => f)).trans hC3)
  have hW4 : (w4.alloc (.cells cc.toArray 31)).heap[w4.heap.size]? = some (.cells cc.toArray 31 (0, 0)) := alloc_new _ _ rfl
  have hK4 : Kept (fun _ => False) w (w4.alloc (.cells cc.toArray 31)) := (hK3.trans hk4).alloc _
  have HD4 := hid_of hD4
  have HC4 := hid_of hC4
  have HW4 := hid_of hW4
  have HK4 := hid_of hK4
  clear hk4 hD3 hC3 hK3 HRC hD4 hC4 hW4 hK4
  go_wp2_with (first | (refine wpList_store_row rfl 31 _ _ rfl w4.heap.size cc.toArray rfl rfl 31 _ (alloc_new _ _ rfl) hsW HOS.out hoC ?_; rw [setRow_new _ _ _ _ rfl]))
  have HA1 := hid_of (rangeL HD4.out)
  have HA2 := hid_of (rangeL HC4.out)
  have HA3 := hid_of (rangeL HW4.out)
  generalize w4.alloc (.cells cc.toArray 31) = wb at *
  have HB : Hid (Kept (fun _ => False) wb wb.drew) := (Kept.refl _ wb).drew
  refine wp_region_held_drew (S := fun w' => w'.rangeAt w.heap.size 0 cd ∧ w'.rangeAt w2.heap.size 0 cc ∧ w'.rangeAt w4.heap.size 0 cc) (by kernel_rfl) ⟨range_kept HA1.out HB.out (fun f => f), range_kept HA2.out HB.out (fun f => f), range_kept HA3.out HB.out (fun f => f)⟩ (fun hHeld => ?_)
  refine wpAnyH_take (i := 0) (v := ?_) rfl (by kernel_rfl) (by kernel_rfl) (by kernel_rfl) (fun _ _ _ h => h) (Or.inl ⟨by rfl, ?_⟩) (by assumption) ?_
  rotate_left 1
  · intro w hSw
    go_simp
    try with_reducible rfl
  try simp only [Act.put, List.getElem_toArray, List.getElem_cons_zero, List.getElem_cons_succ, List.setIfInBounds_toArray, List.set_cons_zero, List.set_cons_succ]
  refine wpAnyH_take (i := 1) (v := ?_) rfl (by kernel_rfl) (by kernel_rfl) (by kernel_rfl) (fun _ _ _ h => h) (Or.inl ⟨by rfl, ?_⟩) (by assumption) ?_
  rotate_left 1
  · intro w hSw
    go_simp
    try with_reducible rfl
  try simp only [Act.put, List.getElem_toArray, List.getElem_cons_zero, List.getElem_cons_succ, List.setIfInBounds_toArray, List.set_cons_zero, List.set_cons_succ]
  refine wpAnyH_take (i := 2) (v := ?_) rfl (by kernel_rfl) (by kernel_rfl) (by kernel_rfl) (fun _ _ _ h => h) (Or.inl ⟨by rfl, ?_⟩) (by assumption) ?_
  rotate_left 1
  · intro w hSw
    go_simp
    try with_reducible rfl
  try simp only [Act.put, List.getElem_toArray, List.getElem_cons_zero, List.getElem_cons_succ, List.setIfInBounds_toArray, List.set_cons_zero, List.set_cons_succ]
  refine wpAnyH_take (i := 3) (v := ?_) rfl (by kernel_rfl) (by kernel_rfl) (by kernel_rfl) (fun _ _ _ h => h) (Or.inl ⟨by rfl, ?_⟩) (by assumption) ?_
  rotate_left 1
  · intro w hSw
    go_simp
    try with_reducible rfl
  try simp only [Act.put, List.getElem_toArray, List.getElem_cons_zero, List.getElem_cons_succ, List.setIfInBounds_toArray, List.set_cons_zero, List.set_cons_succ]
  refine wpAnyH_take (i := 4) (v := .agg cc.toArray) rfl (by kernel_rfl) (by kernel_rfl) (by kernel_rfl) (fun _ _ _ h => h) (yieldsIf_load_mid (by rfl) 28 _ rfl w2.heap.size 0 rfl cc _ (fun w hSw => hSw.2.1) hu28 rfl hsC) (by assumption) ?_
  try simp only [Act.put, List.getElem_toArray, List.getElem_cons_zero, List.getElem_cons_succ, List.setIfInBounds_toArray, List.set_cons_zero, List.set_cons_succ]
  refine wpAnyH_take (i := 6) (v := .agg cc.toArray) rfl (by kernel_rfl) (by kernel_rfl) (by kernel_rfl) (fun _ _ _ h => h) (yieldsIf_load_mid (by rfl) 31 _ rfl w4.heap.size 0 rfl cc _ (fun w hSw => hSw.2.2) hu31 rfl hsW) (by assumption) ?_
  try simp only [Act.put, List.getElem_toArray, List.getElem_cons_zero, List.getElem_cons_succ, List.setIfInBounds_toArray, List.set_cons_zero, List.set_cons_succ]
  refine wpAnyH_ready (rs := [5]) (by kernel_rfl) (by simp) ?_
  refine AllReadyH.cons rfl (fun K hK => ?_) AllReadyH.nil
  go_simp
  refine (HGC.out _).mono ?_
  rintro e w' ⟨rfl, hk'⟩
  replace HB := hid_of (HB.out.trans hk')
  clear hk'
  refine hK.out _ _ ⟨range_kept HA1.out HB.out (fun f => f), range_kept HA2.out HB.out (fun f => f), range_kept HA3.out HB.out (fun f => f)⟩ (fun hHeld => ?_)
  clear hK K
  try simp only [Act.put, List.getElem_toArray, List.getElem_cons_zero, List.getElem_cons_succ, List.setIfInBounds_toArray, List.set_cons_zero, List.set_cons_succ]
  refine wpAnyH_take (i := 7) (v := ?_) rfl (by kernel_rfl) (by kernel_rfl) (by kernel_rfl) (fun _ _ _ h => h) (Or.inl ⟨by rfl, ?_⟩) (by assumption) ?_
  rotate_left 1
  · intro w hSw
    go_simp
    try with_reducible rfl
  try simp only [Act.put, List.getElem_toArray, List.getElem_cons_zero, List.getElem_cons_succ, List.setIfInBounds_toArray, List.set_cons_zero, List.set_cons_succ]
  refine wpAnyH_take (i := 8) (v := ?_) rfl (by kernel_rfl) (by kernel_rfl) (by kernel_rfl) (fun _ _ _ h => h) (Or.inl ⟨by rfl, ?_⟩) (by assumption) ?_
  rotate_left 1
  · intro w hSw
    go_simp
    try with_reducible rfl
  try simp only [Act.put, List.getElem_toArray, List.getElem_cons_zero, List.getElem_cons_succ, List.setIfInBounds_toArray, List.set_cons_zero, List.set_cons_succ]
  refine wpAnyH_take (i := 9) (v := ?_) rfl (by kernel_rfl) (by kernel_rfl) (by kernel_rfl) (fun _ _ _ h => h) (Or.inl ⟨by rfl, ?_⟩) (by assumption) ?_
  rotate_left 1
  · intro w hSw
    go_simp
    try with_reducible rfl
  try simp only [Act.put, List.getElem_toArray, List.getElem_cons_zero, List.getElem_cons_succ, List.setIfInBounds_toArray, List.set_cons_zero, List.set_cons_succ]
  refine wpAnyH_take (i := 10) (v := .agg cd.toArray) rfl (by kernel_rfl) (by kernel_rfl) (by kernel_rfl) (fun _ _ _ h => h) (yieldsIf_load_mid (by rfl) 28 _ rfl w.heap.size 0 rfl cd _ (fun w hSw => hSw.1) hu28 rfl hsD) (by assumption) ?_
  try simp only [Act.put, List.getElem_toArray, List.getElem_cons_zero, List.getElem_cons_succ, List.setIfInBounds_toArray, List.set_cons_zero, List.set_cons_succ]
  refine wpAnyH_take (i := 13) (v := .agg cd.toArray) rfl (by kernel_rfl) (by kernel_rfl) (by kernel_rfl) (fun _ _ _ h => h) (yieldsIf_load_mid (by rfl) 28 _ rfl w.heap.size 0 rfl cd _ (fun w hSw => hSw.1) hu28 rfl hsD) (by assumption) ?_
  try simp only [Act.put, List.getElem_toArray, List.getElem_cons_zero, List.getElem_cons_succ, List.setIfInBounds_toArray, List.set_cons_zero, List.set_cons_succ]
  refine wpAnyH_take (i := 11) (v := ?_) rfl (by kernel_rfl) (by kernel_rfl) (by kernel_rfl) (fun _ _ _ h => h) (Or.inl ⟨by rfl, ?_⟩) (by assumption) ?_
  rotate_left 1
  · intro w hSw
    go_simp
    try with_reducible rfl
  try simp only [Act.put, List.getElem_toArray, List.getElem_cons_zero, List.getElem_cons_succ, List.setIfInBounds_toArray, List.set_cons_zero, List.set_cons_succ]
  refine wpAnyH_take (i := 15) (v := ?_) rfl (by kernel_rfl) (by kernel_rfl) (by kernel_rfl) (fun _ _ _ h => h) (Or.inl ⟨by rfl, ?_⟩) (by assumption) ?_
  rotate_left 1
  · intro w hSw
    go_simp
    try with_reducible rfl
  try simp only [Act.put, List.getElem_toArray, List.getElem_cons_zero, List.getElem_cons_succ, List.setIfInBounds_toArray, List.set_cons_zero, List.set_cons_succ]
  refine wpAnyH_ready (rs := [12]) (by kernel_rfl) (by simp) ?_
  refine AllReadyH.cons rfl (fun K hK => ?_) AllReadyH.nil
  go_simp
  refine (HF.out _).mono ?_
  rintro e w' ⟨rfl, hk'⟩
  replace HB := hid_of (HB.out.trans hk')
  clear hk'
  refine hK.out _ _ ⟨range_kept HA1.out HB.out (fun f => f), range_kept HA2.out HB.out (fun f => f), range_kept HA3.out HB.out (fun f => f)⟩ (fun hHeld => ?_)
  clear hK K
  try simp only [Act.put, List.getElem_toArray, List.getElem_cons_zero, List.getElem_cons_succ, List.setIfInBounds_toArray, List.set_cons_zero, List.set_cons_succ]
  refine wpAnyH_ready (rs := [14]) (by kernel_rfl) (by simp) ?_
  refine AllReadyH.cons rfl (fun K hK => ?_) AllReadyH.nil
  go_simp
  refine (HGD.out _).mono ?_
  rintro e w' ⟨rfl, hk'⟩
  replace HB := hid_of (HB.out.trans hk')
  clear hk'
  refine hK.out _ _ ⟨range_kept HA1.out HB.out (fun f => f), range_kept HA2.out HB.out (fun f => f), range_kept HA3.out HB.out (fun f => f)⟩ (fun hHeld => ?_)
  clear hK K
  try simp only [Act.put, List.getElem_toArray, List.getElem_cons_zero, List.getElem_cons_succ, List.setIfInBounds_toArray, List.set_cons_zero, List.set_cons_succ]
  refine wpAnyH_ready (rs := [16]) (by kernel_rfl) (by simp) ?_
  refine AllReadyH.cons rfl (fun K hK => ?_) AllReadyH.nil
  go_simp
  refine (HRF.out _).mono ?_
  rintro e w' ⟨rfl, hk'⟩
  replace HB := hid_of (HB.out.trans hk')
  clear hk'
  refine hK.out _ _ ⟨range_kept HA1.out HB.out (fun f => f), range_kept HA2.out HB.out (fun f => f), range_kept HA3.out HB.out (fun f => f)⟩ (fun hHeld => ?_)
  clear hK K
  try simp only [Act.put, List.getElem_toArray, List.getElem_cons_zero, List.getElem_cons_succ, List.setIfInBounds_toArray, List.set_cons_zero, List.set_cons_succ]
  refine wpAnyH_take (i := 17) (v := ?_) rfl (by kernel_rfl) (by kernel_rfl) (by kernel_rfl) (fun _ _ _ h => h) (Or.inl ⟨by rfl, ?_⟩) (by assumption) ?_
  rotate_left 1
  · intro w hSw
    go_simp
    try with_reducible rfl
  try simp only [Act.put, List.getElem_toArray, List.getElem_cons_zero, List.getElem_cons_succ, List.setIfInBounds_toArray, List.set_cons_zero, List.set_cons_succ]
  refine wpAnyH_take (i := 18) (v := ?_) rfl (by kernel_rfl) (by kernel_rfl) (by kernel_rfl) (fun _ _ _ h => h) (Or.inl ⟨by rfl, ?_⟩) (by assumption) ?_
  rotate_left 1
  · intro w hSw
    go_simp
    try with_reducible rfl
  try simp only [Act.put, List.getElem_toArray, List.getElem_cons_zero, List.getElem_cons_succ, List.setIfInBounds_toArray, List.set_cons_zero, List.set_cons_succ]
  refine wpAnyH_take (i := 19) (v := ?_) rfl (by kernel_rfl) (by kernel_rfl) (by kernel_rfl) (fun _ _ _ h => h) (Or.inl ⟨by rfl, ?_⟩) (by assumption) ?_
  rotate_left 1
  · intro w hSw
    go_simp
    try with_reducible rfl
  try simp only [Act.put, List.getElem_toArray, List.getElem_cons_zero, List.getElem_cons_succ, List.setIfInBounds_toArray, List.set_cons_zero, List.set_cons_succ]
  refine wpAnyH_take (i := 20) (v := .agg cc.toArray) rfl (by kernel_rfl) (by kernel_rfl) (by kernel_rfl) (fun _ _ _ h => h) (yieldsIf_load_mid (by rfl) 28 _ rfl w2.heap.size 0 rfl cc _ (fun w hSw => hSw.2.1) hu28 rfl hsC) (by assumption) ?_
  try simp only [Act.put, List.getElem_toArray, List.getElem_cons_zero, List.getElem_cons_succ, List.setIfInBounds_toArray, List.set_cons_zero, List.set_cons_succ]
  refine wpAnyH_take (i := 21) (v := ?_) rfl (by kernel_rfl) (by kernel_rfl) (by kernel_rfl) (fun _ _ _ h => h) (Or.inl ⟨by rfl, ?_⟩) (by assumption) ?_
  rotate_left 1
  · intro w hSw
    go_simp
    try with_reducible rfl
  try simp only [Act.put, List.getElem_toArray, List.getElem_cons_zero, List.getElem_cons_succ, List.setIfInBounds_toArray, List.set_cons_zero, List.set_cons_succ]
  refine wpAnyH_take (i := 23) (v := ?_) rfl (by kernel_rfl) (by kernel_rfl) (by kernel_rfl) (fun _ _ _ h => h) (Or.inl ⟨by rfl, ?_⟩) (by assumption) ?_
  rotate_left 1
  · intro w hSw
    go_simp
    try with_reducible rfl
  try simp only [Act.put, List.getElem_toArray, List.getElem_cons_zero, List.getElem_cons_succ, List.setIfInBounds_toArray, List.set_cons_zero, List.set_cons_succ]
  refine wpAnyH_take (i := 24) (v := ?_) rfl (by kernel_rfl) (by kernel_rfl) (by kernel_rfl) (fun _ _ _ h => h) (Or.inl ⟨by rfl, ?_⟩) (by assumption) ?_
  rotate_left 1
  · intro w hSw
    go_simp
    try with_reducible rfl
  try simp only [Act.put, List.getElem_toArray, List.getElem_cons_zero, List.getElem_cons_succ, List.setIfInBounds_toArray, List.set_cons_zero, List.set_cons_succ]
  refine wpAnyH_ready (rs := [22]) (by kernel_rfl) (by simp) ?_
  refine AllReadyH.cons rfl (fun K hK => ?_) AllReadyH.nil
  go_simp
  refine (HFC.out _).mono ?_
  rintro e w' ⟨rfl, hk'⟩
  replace HB := hid_of (HB.out.trans hk')
  clear hk'
  refine hK.out _ _ ⟨range_kept HA1.out HB.out (fun f => f), range_kept HA2.out HB.out (fun f => f), range_kept HA3.out HB.out (fun f => f)⟩ (fun hHeld => ?_)
  clear hK K
  try simp only [Act.put, List.getElem_toArray, List.getElem_cons_zero, List.getElem_cons_succ, List.setIfInBounds_toArray, List.set_cons_zero, List.set_cons_succ]
  refine wpAnyH_take (i := 25) (v := ?_) rfl (by kernel_rfl) (by kernel_rfl) (by kernel_rfl) (fun _ _ _ h => h) (Or.inl ⟨by rfl, ?_⟩) (by assumption) ?_
  rotate_left 1
  · intro w hSw
    go_simp
    try with_reducible rfl
  try simp only [Act.put, List.getElem_toArray, List.getElem_cons_zero, List.getElem_cons_succ, List.setIfInBounds_toArray, List.set_cons_zero, List.set_cons_succ]
  refine wpAnyH_take (i := 26) (v := ?_) rfl (by kernel_rfl) (by kernel_rfl) (by kernel_rfl) (fun _ _ _ h => h) (Or.inl ⟨by rfl, ?_⟩) (by assumption) ?_
  rotate_left 1
  · intro w hSw
    go_simp
    try with_reducible rfl
  try simp only [Act.put, List.getElem_toArray, List.getElem_cons_zero, List.getElem_cons_succ, List.setIfInBounds_toArray, List.set_cons_zero, List.set_cons_succ]
  refine wpAnyH_take (i := 27) (v := ?_) rfl (by kernel_rfl) (by kernel_rfl) (by kernel_rfl) (fun _ _ _ h => h) (Or.inl ⟨by rfl, ?_⟩) (by assumption) ?_
  rotate_left 1
  · intro w hSw
    go_simp
    try with_reducible rfl
  try simp only [Act.put, List.getElem_toArray, List.getElem_cons_zero, List.getElem_cons_succ, List.setIfInBounds_toArray, List.set_cons_zero, List.set_cons_succ]
  refine wpAnyH_done (by kernel_rfl) ?_ _
  go_wp2
  go_ret
  exact ⟨rfl, HK4.out.trans HB.out⟩
end Go.Proofs.YtdbogfjkaebeoaaDoor

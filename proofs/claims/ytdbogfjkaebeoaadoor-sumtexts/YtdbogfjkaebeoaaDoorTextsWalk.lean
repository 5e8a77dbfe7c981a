/-
  The walk of SumTexts.
-/
import Derived.Test.YtdbogfjkaebeoaaDoorKnown
import Derived.Test.YtdbogfjkaebeoaaDoorEql
import Derived.Test.YtdbogfjkaebeoaaDoorParseA
import Derived.Test.YtdbogfjkaebeoaaDoorRparse
namespace Go.Proofs.YtdbogfjkaebeoaaDoor
open Go.RowKit
set_option linter.unusedVariables false
set_option linter.unusedSimpArgs false

set_option maxRecDepth 100000 in
set_option maxHeartbeats 1000000 in
theorem gw_row (cs : Array Value) (hsz : cs.size = 32) (h1 : cs.all (·.oneCell') = true) (w : World) :
    Calls Tryd.prog 14 #[.agg cs] w fun e w' => e = .returned (.agg cs) ∧ Kept (fun _ => False) w w' := by
  have hs28 : (Tryd.prog.info? 28).map (·.size) = some cs.size := by rw [size28, hsz]
  have hs31 : (Tryd.prog.info? 31).map (·.size) = some cs.size := by rw [size31, hsz]
  have HOS : Hid (32 = cs.size) := hsz.symm
  clear hsz
  go_enter Tryd.func14, Tryd.ntmps14
  go_wp2_with (first | refine wpList_load_row rfl 28 _ rfl w.heap.size rfl 28 cs (0, 0) _ (alloc_old (alloc_new _ _ rfl)) Tryd.underlying28 rfl hs28 ?_ | (refine wpList_store_row rfl 31 _ _ rfl (w.heap.size + 1) cs rfl rfl 31 _ (alloc_new _ _ (by simp)) hs31 HOS.out h1 ?_; rw [setRow_new _ _ _ _ (by simp)]))
  try simp only [Act.put]
  refine bodyPost_ret (v := .agg cs) ?_ rfl ⟨rfl, ((Kept.refl _ w).alloc _).alloc _⟩
  exact results_cell_row (by rfl) _ _ (w.heap.size + 1) 31 cs (0, 0) _ (by rfl) (alloc_new _ _ (by simp)) Tryd.underlying31 rfl hs31
theorem gw_any (a : List Int) (ha : a.length = 32) (w : World) :
    Calls Tryd.prog 14 #[.agg (a.map (Value.int .u8)).toArray] w fun e w' => e = .returned (.agg (a.map (Value.int .u8)).toArray) ∧ Kept (fun _ => False) w w' := gw_row _ (by simp [ha]) (oneCells _ _) w
theorem rangeW {w : World} {g : Nat} {cs : List Value} {t : TypeId} {f : Nat × Nat} (h : w.heap[g]? = some (.cells cs.toArray t f)) : w.rangeAt g 0 cs := fun j v hv => by
  rw [cell_block _ _ _ _ _ _ h, Nat.zero_add]
  simpa using hv

/-- Is it a digest's text? -/
def isText (s : ByteArray) : Prop := s.size = 64 ∧ ∀ j, j < 64 → 0 ≤ hv s j
theorem parse_both (s : ByteArray) : ∃ (b : List Int) (c : Int), b.length = 32 ∧
    (∀ W, Calls Tryd.prog 29 #[.string s] W fun e w' => e = .returned (.tuple #[.agg (b.map (Value.int .u8)).toArray, .int .i64 c]) ∧ Kept (fun _ => False) W w') ∧
    (∀ W, Calls Tryd.prog 30 #[.string s] W fun e w' => e = .returned (.tuple #[.agg (b.map (Value.int .u8)).toArray, .int .i64 c]) ∧ Kept (fun _ => False) W w') := by
  by_cases hs : s.size = 64
  · by_cases hg : ∀ j, j < 64 → 0 ≤ hv s j
    · refine ⟨parsed s, 0, parsed_length s, fun W => (parse_let s hs W).mono ?_, fun W => (rparse_let s hs W).mono ?_⟩ <;>
      · rintro e w' ⟨hk, ⟨_, rfl⟩ | ⟨⟨j, hj, hb⟩, _⟩⟩
        · exact ⟨rfl, hk⟩
        · have := hg j hj
          omega
    · refine ⟨zeros32, 21, rfl, fun W => (parse_let s hs W).mono ?_, fun W => (rparse_let s hs W).mono ?_⟩ <;>
      · rintro e w' ⟨hk, ⟨h, _⟩ | ⟨_, rfl⟩⟩
        · exact absurd h hg
        · exact ⟨rfl, hk⟩
  · exact ⟨zeros32, 21, rfl, fun W => parse_len s hs W, fun W => rparse_len s hs W⟩

set_option maxRecDepth 100000 in
set_option maxHeartbeats 2000000 in
theorem sumTexts_walk (d : List Int) (s : ByteArray) (hl : d.length = 32) (hr : ∀ x ∈ d, 0 ≤ x ∧ x < 256) (w : World) (hL : Laid w) :
    Calls Tryd.prog 6 #[.agg (d.map (Value.int .u8)).toArray, .string s] w fun e w' => e = .returned (.bool true) ∧ Kept (fun _ => False) w w' := by
  obtain ⟨b, ev, hb, hP, hRP⟩ := parse_both s
  have HKN : Hid (Calls Tryd.prog 9 #[] (w.alloc (.cells (d.map (Value.int .u8)).toArray 28)).drew fun e w' => e = .returned (.bool true) ∧ Kept (fun _ => False) (w.alloc (.cells (d.map (Value.int .u8)).toArray 28)).drew w') := known_any _ (show Laid (w.alloc (.cells (d.map (Value.int .u8)).toArray 28)).drew from laid_kept (w' := w.alloc (.cells (d.map (Value.int .u8)).toArray 28)) hL ((Kept.refl (fun _ => False) w).alloc _) (fun f => f))
  have HT := hid_of (fun W => text_any d hl hr W)
  have HRT := hid_of (fun W => rtext_any d hl hr W)
  have HGD := hid_of (fun W => gw_any d hl W)
  have HGC := hid_of (fun W => gw_any b hb W)
  have HP := hid_of hP
  have HRP := hid_of hRP
  have heq : ∀ W, (binOp .eql 31 (.agg (b.map (Value.int .u8)).toArray) (.agg (b.map (Value.int .u8)).toArray)).run Tryd.prog W = .ok (.bool true) W := fun W => by
    rw [run_eql32 W 31 b b Tryd.underlying31 hb hb]
    simp
  have hlD : (d.map (Value.int .u8)).length = 32 := by rw [List.length_map, hl]
  have hlC : (b.map (Value.int .u8)).length = 32 := by rw [List.length_map, hb]
  have hsD : (Tryd.prog.info? 28).map (·.size) = some (d.map (Value.int .u8)).length := by rw [size28, hlD]
  have hsC : (Tryd.prog.info? 28).map (·.size) = some (b.map (Value.int .u8)).length := by rw [size28, hlC]
  have hsW : (Tryd.prog.info? 31).map (·.size) = some (b.map (Value.int .u8)).length := by rw [size31, hlC]
  have hoC := oneCells .u8 b
  have HOS : Hid (32 = (b.map (Value.int .u8)).length) := hlC.symm
  have hu28 := Tryd.underlying28
  have hu31 := Tryd.underlying31
  clear hl hb hL hlD hlC hP hRP hr
  generalize d.map (Value.int .u8) = cd at *
  generalize b.map (Value.int .u8) = cc at *
  generalize strOf (hexs d) = st at *
  go_enter Tryd.func6, Tryd.ntmps6
  go_wp2_with fail
  have HA1 : Hid ((w.alloc (.cells cd.toArray 28)).rangeAt w.heap.size 0 cd) := rangeW (alloc_new _ _ rfl)
  have HKA : Hid (Kept (fun _ => False) w (w.alloc (.cells cd.toArray 28))) := (Kept.refl _ w).alloc _
  generalize w.alloc (.cells cd.toArray 28) = wa at *
  have HB : Hid (Kept (fun _ => False) wa wa.drew) := (Kept.refl _ wa).drew
  refine wp_region_held_drew (S := fun w' => w'.rangeAt w.heap.size 0 cd) (by kernel_rfl) (range_kept HA1.out HB.out (fun f => f)) (fun hHeld => ?_)
  refine wpAnyH_ready (rs := [0]) (by kernel_rfl) (by simp) ?_
  refine AllReadyH.cons rfl (fun K hK => ?_) AllReadyH.nil
  go_simp
  refine (HKN.out).mono ?_
  rintro e w' ⟨rfl, hk'⟩
  replace HB := hid_of (HB.out.trans hk')
  clear hk'
  refine hK.out _ _ (range_kept HA1.out HB.out (fun f => f)) (fun hHeld => ?_)
  clear hK K
  try simp only [Act.put, List.getElem_toArray, List.getElem_cons_zero, List.getElem_cons_succ, List.setIfInBounds_toArray, List.set_cons_zero, List.set_cons_succ]
  refine wpAnyH_take (i := 1) (v := ?_) rfl (by kernel_rfl) (by kernel_rfl) (by kernel_rfl) (fun _ _ _ h => h) (Or.inl ⟨by rfl, ?_⟩) (by assumption) ?_
  rotate_left 1
  · intro w hSw
    go_simp
    try with_reducible rfl
  try simp only [Act.put, List.getElem_toArray, List.getElem_cons_zero, List.getElem_cons_succ, List.setIfInBounds_toArray, List.set_cons_zero, List.set_cons_succ]
  refine wpAnyH_take (i := 2) (v := ?_) rfl (by kernel_rfl) (by kernel_rfl) (by kernel_rfl) (fun _ _ _ h => h) (Or.inl ⟨by rfl, ?_⟩) (by assumption) ?_
  rotate_left 1
  · intro w hSw
    go_simp
    try with_reducible rfl
  try simp only [Act.put, List.getElem_toArray, List.getElem_cons_zero, List.getElem_cons_succ, List.setIfInBounds_toArray, List.set_cons_zero, List.set_cons_succ]
  refine wpAnyH_take (i := 3) (v := .agg cd.toArray) rfl (by kernel_rfl) (by kernel_rfl) (by kernel_rfl) (fun _ _ _ h => h) (yieldsIf_load_mid (by rfl) 28 _ rfl w.heap.size 0 rfl cd _ (fun w hSw => hSw) hu28 rfl hsD) (by assumption) ?_
  try simp only [Act.put, List.getElem_toArray, List.getElem_cons_zero, List.getElem_cons_succ, List.setIfInBounds_toArray, List.set_cons_zero, List.set_cons_succ]
  refine wpAnyH_take (i := 5) (v := .agg cd.toArray) rfl (by kernel_rfl) (by kernel_rfl) (by kernel_rfl) (fun _ _ _ h => h) (yieldsIf_load_mid (by rfl) 28 _ rfl w.heap.size 0 rfl cd _ (fun w hSw => hSw) hu28 rfl hsD) (by assumption) ?_
  try simp only [Act.put, List.getElem_toArray, List.getElem_cons_zero, List.getElem_cons_succ, List.setIfInBounds_toArray, List.set_cons_zero, List.set_cons_succ]
  refine wpAnyH_ready (rs := [4]) (by kernel_rfl) (by simp) ?_
  refine AllReadyH.cons rfl (fun K hK => ?_) AllReadyH.nil
  go_simp
  refine (HT.out _).mono ?_
  rintro e w' ⟨rfl, hk'⟩
  replace HB := hid_of (HB.out.trans hk')
  clear hk'
  refine hK.out _ _ (range_kept HA1.out HB.out (fun f => f)) (fun hHeld => ?_)
  clear hK K
  try simp only [Act.put, List.getElem_toArray, List.getElem_cons_zero, List.getElem_cons_succ, List.setIfInBounds_toArray, List.set_cons_zero, List.set_cons_succ]
  refine wpAnyH_ready (rs := [6]) (by kernel_rfl) (by simp) ?_
  refine AllReadyH.cons rfl (fun K hK => ?_) AllReadyH.nil
  go_simp
  refine (HGD.out _).mono ?_
  rintro e w' ⟨rfl, hk'⟩
  replace HB := hid_of (HB.out.trans hk')
  clear hk'
  refine hK.out _ _ (range_kept HA1.out HB.out (fun f => f)) (fun hHeld => ?_)
  clear hK K
  try simp only [Act.put, List.getElem_toArray, List.getElem_cons_zero, List.getElem_cons_succ, List.setIfInBounds_toArray, List.set_cons_zero, List.set_cons_succ]
  refine wpAnyH_ready (rs := [7]) (by kernel_rfl) (by simp) ?_
  refine AllReadyH.cons rfl (fun K hK => ?_) AllReadyH.nil
  go_simp
  refine (HRT.out _).mono ?_
  rintro e w' ⟨rfl, hk'⟩
  replace HB := hid_of (HB.out.trans hk')
  clear hk'
  refine hK.out _ _ (range_kept HA1.out HB.out (fun f => f)) (fun hHeld => ?_)
  clear hK K
  try simp only [Act.put, List.getElem_toArray, List.getElem_cons_zero, List.getElem_cons_succ, List.setIfInBounds_toArray, List.set_cons_zero, List.set_cons_succ]
  refine wpAnyH_take (i := 8) (v := ?_) rfl (by kernel_rfl) (by kernel_rfl) (by kernel_rfl) (fun _ _ _ h => h) (Or.inl ⟨by rfl, ?_⟩) (by assumption) ?_
  rotate_left 1
  · intro w hSw
    go_simp
    try with_reducible rfl
  try simp only [Act.put, List.getElem_toArray, List.getElem_cons_zero, List.getElem_cons_succ, List.setIfInBounds_toArray, List.set_cons_zero, List.set_cons_succ]
  refine wpAnyH_take (i := 9) (v := ?_) rfl (by kernel_rfl) (by kernel_rfl) (by kernel_rfl) (fun _ _ _ h => h) (Or.inl ⟨by rfl, ?_⟩) (by assumption) ?_
  rotate_left 1
  · intro w hSw
    go_simp
    try with_reducible rfl
  try simp only [Act.put, List.getElem_toArray, List.getElem_cons_zero, List.getElem_cons_succ, List.setIfInBounds_toArray, List.set_cons_zero, List.set_cons_succ]
  refine wpAnyH_done (by kernel_rfl) ?_ _
  have HKB := hid_of (HKA.out.trans HB.out)
  clear HKA HB HA1 HKN HT HRT HGD
  try clear hHeld
  rename_i wc
  go_wp2_with fail
  refine (HP.out _).mono ?_
  rintro e w2 ⟨rfl, hk2⟩
  have hC2 : (w2.alloc (.cells cc.toArray 28)).heap[w2.heap.size]? = some (.cells cc.toArray 28 (0, 0)) := alloc_new _ _ rfl
  have hK2 : Kept (fun _ => False) w (w2.alloc (.cells cc.toArray 28)) := (HKB.out.trans hk2).alloc _
  clear hk2 HKB HP
  have HC2 := hid_of hC2
  have HK2 := hid_of hK2
  clear hC2 hK2
  go_wp2_with (first | (refine wpList_store_row rfl 28 _ _ rfl w2.heap.size cc.toArray rfl rfl 28 _ (alloc_new _ _ rfl) hsC HOS.out hoC ?_; rw [setRow_new _ _ _ _ rfl]))
  refine (HRP.out _).mono ?_
  rintro e w3 ⟨rfl, hk3⟩
  have hC3 : (w3.alloc (.cells cc.toArray 31)).heap[w2.heap.size]? = some (.cells cc.toArray 28 (0, 0)) := alloc_old ((hk3.block _ (heap_lt HC2.out) (fun f => f)).trans HC2.out)
  have hW3 : (w3.alloc (.cells cc.toArray 31)).heap[w3.heap.size]? = some (.cells cc.toArray 31 (0, 0)) := alloc_new _ _ rfl
  have HK3 : Hid (Kept (fun _ => False) w (w3.alloc (.cells cc.toArray 31))) := (HK2.out.trans hk3).alloc _
  have HA2 := hid_of (rangeW hC3)
  have HA3 := hid_of (rangeW hW3)
  clear hk3 hC3 hW3 HK2 HC2 HRP
  go_wp2_with (first | (refine wpList_store_row rfl 31 _ _ rfl w3.heap.size cc.toArray rfl rfl 31 _ (alloc_new _ _ rfl) hsW HOS.out hoC ?_; rw [setRow_new _ _ _ _ rfl]))
  generalize w3.alloc (.cells cc.toArray 31) = wb at *
  have HB : Hid (Kept (fun _ => False) wb wb.drew) := (Kept.refl _ wb).drew
  refine wp_region_held_drew (S := fun w' => w'.rangeAt w2.heap.size 0 cc ∧ w'.rangeAt w3.heap.size 0 cc) (by kernel_rfl) ⟨range_kept HA2.out HB.out (fun f => f), range_kept HA3.out HB.out (fun f => f)⟩ (fun hHeld => ?_)
  refine wpAnyH_take (i := 0) (v := ?_) rfl (by kernel_rfl) (by kernel_rfl) (by kernel_rfl) (fun _ _ _ h => h) (Or.inl ⟨by rfl, ?_⟩) (by assumption) ?_
  rotate_left 1
  · intro w hSw
    go_simp
    try with_reducible rfl
  try simp only [Act.put, List.getElem_toArray, List.getElem_cons_zero, List.getElem_cons_succ, List.setIfInBounds_toArray, List.set_cons_zero, List.set_cons_succ]
  refine wpAnyH_take (i := 1) (v := ?_) rfl (by kernel_rfl) (by kernel_rfl) (by kernel_rfl) (fun _ _ _ h => h) (Or.inl ⟨by rfl, ?_⟩) (by assumption) ?_
  rotate_left 1
  · intro w hSw
    go_simp
    try with_reducible rfl
  try simp only [Act.put, List.getElem_toArray, List.getElem_cons_zero, List.getElem_cons_succ, List.setIfInBounds_toArray, List.set_cons_zero, List.set_cons_succ]
  refine wpAnyH_take (i := 2) (v := ?_) rfl (by kernel_rfl) (by kernel_rfl) (by kernel_rfl) (fun _ _ _ h => h) (Or.inl ⟨by rfl, ?_⟩) (by assumption) ?_
  rotate_left 1
  · intro w hSw
    go_simp
    try with_reducible rfl
  try simp only [Act.put, List.getElem_toArray, List.getElem_cons_zero, List.getElem_cons_succ, List.setIfInBounds_toArray, List.set_cons_zero, List.set_cons_succ]
  refine wpAnyH_take (i := 3) (v := ?_) rfl (by kernel_rfl) (by kernel_rfl) (by kernel_rfl) (fun _ _ _ h => h) (Or.inl ⟨by rfl, ?_⟩) (by assumption) ?_
  rotate_left 1
  · intro w hSw
    go_simp
    try with_reducible rfl
  try simp only [Act.put, List.getElem_toArray, List.getElem_cons_zero, List.getElem_cons_succ, List.setIfInBounds_toArray, List.set_cons_zero, List.set_cons_succ]
  refine wpAnyH_take (i := 4) (v := .agg cc.toArray) rfl (by kernel_rfl) (by kernel_rfl) (by kernel_rfl) (fun _ _ _ h => h) (yieldsIf_load_mid (by rfl) 28 _ rfl w2.heap.size 0 rfl cc _ (fun w hSw => hSw.1) hu28 rfl hsC) (by assumption) ?_
  try simp only [Act.put, List.getElem_toArray, List.getElem_cons_zero, List.getElem_cons_succ, List.setIfInBounds_toArray, List.set_cons_zero, List.set_cons_succ]
  refine wpAnyH_take (i := 6) (v := .agg cc.toArray) rfl (by kernel_rfl) (by kernel_rfl) (by kernel_rfl) (fun _ _ _ h => h) (yieldsIf_load_mid (by rfl) 31 _ rfl w3.heap.size 0 rfl cc _ (fun w hSw => hSw.2) hu31 rfl hsW) (by assumption) ?_
  try simp only [Act.put, List.getElem_toArray, List.getElem_cons_zero, List.getElem_cons_succ, List.setIfInBounds_toArray, List.set_cons_zero, List.set_cons_succ]
  refine wpAnyH_ready (rs := [5]) (by kernel_rfl) (by simp) ?_
  refine AllReadyH.cons rfl (fun K hK => ?_) AllReadyH.nil
  go_simp
  refine (HGC.out _).mono ?_
  rintro e w' ⟨rfl, hk'⟩
  replace HB := hid_of (HB.out.trans hk')
  clear hk'
  refine hK.out _ _ ⟨range_kept HA2.out HB.out (fun f => f), range_kept HA3.out HB.out (fun f => f)⟩ (fun hHeld => ?_)
  clear hK K
  try simp only [Act.put, List.getElem_toArray, List.getElem_cons_zero, List.getElem_cons_succ, List.setIfInBounds_toArray, List.set_cons_zero, List.set_cons_succ]
  refine wpAnyH_take (i := 7) (v := ?_) rfl (by kernel_rfl) (by kernel_rfl) (by kernel_rfl) (fun _ _ _ h => h) (Or.inl ⟨by rfl, ?_⟩) (by assumption) ?_
  rotate_left 1
  · intro w hSw
    go_simp
    try with_reducible rfl
  try simp only [Act.put, List.getElem_toArray, List.getElem_cons_zero, List.getElem_cons_succ, List.setIfInBounds_toArray, List.set_cons_zero, List.set_cons_succ]
  refine wpAnyH_take (i := 8) (v := ?_) rfl (by kernel_rfl) (by kernel_rfl) (by kernel_rfl) (fun _ _ _ h => h) (Or.inl ⟨by rfl, ?_⟩) (by assumption) ?_
  rotate_left 1
  · intro w hSw
    go_simp
    try with_reducible rfl
  try simp only [Act.put, List.getElem_toArray, List.getElem_cons_zero, List.getElem_cons_succ, List.setIfInBounds_toArray, List.set_cons_zero, List.set_cons_succ]
  refine wpAnyH_take (i := 9) (v := ?_) rfl (by kernel_rfl) (by kernel_rfl) (by kernel_rfl) (fun _ _ _ h => h) (Or.inl ⟨by rfl, ?_⟩) (by assumption) ?_
  rotate_left 1
  · intro w hSw
    go_simp
    try with_reducible rfl
  try simp only [Act.put, List.getElem_toArray, List.getElem_cons_zero, List.getElem_cons_succ, List.setIfInBounds_toArray, List.set_cons_zero, List.set_cons_succ]
  refine wpAnyH_done (by kernel_rfl) ?_ _
  go_wp2
  go_ret
  exact ⟨rfl, HK3.out.trans HB.out⟩
end Go.Proofs.YtdbogfjkaebeoaaDoor

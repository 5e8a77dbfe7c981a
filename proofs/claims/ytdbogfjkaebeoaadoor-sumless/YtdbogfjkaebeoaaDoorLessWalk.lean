/-
  The walk of SumLess.
-/
import Derived.Test.YtdbogfjkaebeoaaDoorLess
namespace Go.Proofs.YtdbogfjkaebeoaaDoor
open Go.RowKit
set_option linter.unusedVariables false
set_option linter.unusedSimpArgs false

theorem size31 : (Tryd.prog.info? 31).map (·.size) = some 32 := by kernel_rfl

set_option maxRecDepth 100000 in
set_option maxHeartbeats 1000000 in
theorem given_row (cs : Array Value) (hsz : cs.size = 32) (h1 : cs.all (·.oneCell') = true) (w : World) :
    Calls Tryd.prog 14 #[.agg cs] w fun e w' => e = .returned (.agg cs) ∧ Kept (fun _ => False) w w' := by
  have hs28 : (Tryd.prog.info? 28).map (·.size) = some cs.size := by rw [size28, hsz]
  have hs31 : (Tryd.prog.info? 31).map (·.size) = some cs.size := by rw [size31, hsz]
  have hos : 32 = cs.size := hsz.symm
  go_enter Tryd.func14, Tryd.ntmps14
  go_wp2_with (first | refine wpList_load_row rfl 28 _ rfl w.heap.size rfl 28 cs (0, 0) _ (alloc_old (alloc_new _ _ rfl)) Tryd.underlying28 rfl hs28 ?_ | (refine wpList_store_row rfl 31 _ _ rfl (w.heap.size + 1) cs rfl rfl 31 _ (alloc_new _ _ (by simp)) hs31 hos h1 ?_; rw [setRow_new _ _ _ _ (by simp)]))
  try simp only [Act.put]
  refine bodyPost_ret (v := .agg cs) ?_ rfl ⟨rfl, ((Kept.refl _ w).alloc _).alloc _⟩
  exact results_cell_row (by rfl) _ _ (w.heap.size + 1) 31 cs (0, 0) _ (by rfl) (alloc_new _ _ (by simp)) Tryd.underlying31 rfl hs31

theorem given_any (a : List Int) (ha : a.length = 32) (w : World) :
    Calls Tryd.prog 14 #[.agg (a.map (Value.int .u8)).toArray] w fun e w' => e = .returned (.agg (a.map (Value.int .u8)).toArray) ∧ Kept (fun _ => False) w w' := given_row _ (by simp [ha]) (oneCells _ _) w

theorem ltB_irr : ∀ a : List Int, ltB a a = false
  | [] => rfl
  | x :: l => by rw [ltB, if_neg (by omega), if_neg (by omega)]; exact ltB_irr l

theorem less_lit (w : World) : Calls Tryd.prog 31 #[.agg #[.int .u8 0, .int .u8 0, .int .u8 0, .int .u8 0, .int .u8 0, .int .u8 0, .int .u8 0, .int .u8 0, .int .u8 0, .int .u8 0, .int .u8 0, .int .u8 0, .int .u8 0, .int .u8 0, .int .u8 0, .int .u8 0, .int .u8 0, .int .u8 0, .int .u8 0, .int .u8 0, .int .u8 0, .int .u8 0, .int .u8 0, .int .u8 0, .int .u8 0, .int .u8 0, .int .u8 0, .int .u8 0, .int .u8 0, .int .u8 0, .int .u8 0, .int .u8 0], .agg #[.int .u8 0, .int .u8 0, .int .u8 0, .int .u8 0, .int .u8 0, .int .u8 0, .int .u8 0, .int .u8 0, .int .u8 0, .int .u8 0, .int .u8 0, .int .u8 0, .int .u8 0, .int .u8 0, .int .u8 0, .int .u8 0, .int .u8 0, .int .u8 0, .int .u8 0, .int .u8 0, .int .u8 0, .int .u8 0, .int .u8 0, .int .u8 0, .int .u8 0, .int .u8 0, .int .u8 0, .int .u8 0, .int .u8 0, .int .u8 0, .int .u8 0, .int .u8 1]] w fun e w' => e = .returned (.bool true) ∧ Kept (fun _ => False) w w' := by
  have h : ltB (List.replicate 32 0) (List.replicate 31 0 ++ [1]) = true := by decide
  have := less_any (List.replicate 32 0) (List.replicate 31 0 ++ [1]) rfl rfl (by decide) (by decide) w
  rw [h] at this
  exact this

theorem range_list {w : World} {g : Nat} {cs : List Value} {t : TypeId} {f : Nat × Nat} (h : w.heap[g]? = some (.cells cs.toArray t f)) : w.rangeAt g 0 cs := fun j v hv => by
  rw [cell_block _ _ _ _ _ _ h, Nat.zero_add]
  simpa using hv

set_option maxRecDepth 100000 in
set_option maxHeartbeats 2000000 in
theorem sumLess_walk (a b : List Int) (ha : a.length = 32) (hb : b.length = 32) (hra : ∀ x ∈ a, 0 ≤ x ∧ x < 256) (hrb : ∀ x ∈ b, 0 ≤ x ∧ x < 256) (w : World) (hL : Laid w) :
    Calls Tryd.prog 7 #[.agg (a.map (Value.int .u8)).toArray, .agg (b.map (Value.int .u8)).toArray] w fun e w' => e = .returned (.bool true) ∧ Kept (fun _ => False) w w' := by
  have HLE : Hid (∀ W, Calls Tryd.prog 31 #[.agg (a.map (Value.int .u8)).toArray, .agg (b.map (Value.int .u8)).toArray] W fun e w' => e = .returned (.bool (ltB a b)) ∧ Kept (fun _ => False) W w') := fun W => less_any a b ha hb hra hrb W
  have HLA : Hid (∀ W, Calls Tryd.prog 31 #[.agg (a.map (Value.int .u8)).toArray, .agg (a.map (Value.int .u8)).toArray] W fun e w' => e = .returned (.bool false) ∧ Kept (fun _ => False) W w') := fun W => by
    have := less_any a a ha ha hra hra W
    rw [ltB_irr] at this
    exact this
  have HRL : Hid (∀ W, Calls Tryd.prog 32 #[.agg (a.map (Value.int .u8)).toArray, .agg (b.map (Value.int .u8)).toArray] W fun e w' => e = .returned (.bool (ltB a b)) ∧ Kept (fun _ => False) W w') := fun W => rless_any a b ha hb W
  have HGA : Hid (∀ W, Calls Tryd.prog 14 #[.agg (a.map (Value.int .u8)).toArray] W fun e w' => e = .returned (.agg (a.map (Value.int .u8)).toArray) ∧ Kept (fun _ => False) W w') := fun W => given_any a ha W
  have HGB : Hid (∀ W, Calls Tryd.prog 14 #[.agg (b.map (Value.int .u8)).toArray] W fun e w' => e = .returned (.agg (b.map (Value.int .u8)).toArray) ∧ Kept (fun _ => False) W w') := fun W => given_any b hb W
  have hlA : (a.map (Value.int .u8)).length = 32 := by rw [List.length_map, ha]
  have hlB : (b.map (Value.int .u8)).length = 32 := by rw [List.length_map, hb]
  have hsA : (Tryd.prog.info? 28).map (·.size) = some (a.map (Value.int .u8)).length := by rw [size28, hlA]
  have hsB : (Tryd.prog.info? 28).map (·.size) = some (b.map (Value.int .u8)).length := by rw [size28, hlB]
  have hoA : ∀ v ∈ a.map (Value.int .u8), v.oneCell' = true := fun v hv => by
    obtain ⟨x, _, rfl⟩ := List.mem_map.1 hv
    rfl
  have hoB : ∀ v ∈ b.map (Value.int .u8), v.oneCell' = true := fun v hv => by
    obtain ⟨x, _, rfl⟩ := List.mem_map.1 hv
    rfl
  have hu28 := Tryd.underlying28
  have HL := hid_of hL
  clear hra hrb ha hb hL
  generalize a.map (Value.int .u8) = ca at *
  generalize b.map (Value.int .u8) = cb at *
  generalize ltB a b = t at *
  go_enter Tryd.func7, Tryd.ntmps7
  go_wp2_with fail
  have hA : ((w.alloc (Obj.cells ca.toArray 28)).alloc (Obj.cells cb.toArray 28)).rangeAt w.heap.size 0 ca := range_list (alloc_old (alloc_new _ _ rfl))
  have hBb : ((w.alloc (Obj.cells ca.toArray 28)).alloc (Obj.cells cb.toArray 28)).rangeAt (w.heap.size + 1) 0 cb := range_list (alloc_new _ _ (by simp))
  have hK : Kept (fun _ => False) w ((w.alloc (Obj.cells ca.toArray 28)).alloc (Obj.cells cb.toArray 28)) := ((Kept.refl _ w).alloc _).alloc _
  generalize (w.alloc (Obj.cells ca.toArray 28)).alloc (Obj.cells cb.toArray 28) = w2 at *
  have HA := hid_of hA
  have HBB := hid_of hBb
  have HK := hid_of hK
  have HKN : Hid (Calls Tryd.prog 9 #[] w2.drew fun e w' => e = .returned (.bool true) ∧ Kept (fun _ => False) w2.drew w') := known_any w2.drew (show Laid w2.drew from laid_kept (w' := w2) HL.out hK (fun f => f))
  have HB : Hid (Kept (fun _ => False) w2 w2.drew) := (Kept.refl _ w2).drew
  clear hA hBb hK
  refine wp_region_held_drew (S := fun w' => w'.rangeAt w.heap.size 0 ca ∧ w'.rangeAt (w.heap.size + 1) 0 cb) (by kernel_rfl) ⟨range_kept HA.out HB.out (fun f => f), range_kept HBB.out HB.out (fun f => f)⟩ (fun hHeld => ?_)
  refine wpAnyH_ready (rs := [0]) (by kernel_rfl) (by simp) ?_
  refine AllReadyH.cons rfl (fun K hK => ?_) AllReadyH.nil
  go_simp
  refine (HKN.out).mono ?_
  rintro e w' ⟨rfl, hk'⟩
  replace HB := hid_of (HB.out.trans hk')
  clear hk'
  refine hK.out _ _ ⟨range_kept HA.out HB.out (fun f => f), range_kept HBB.out HB.out (fun f => f)⟩ (fun hHeld => ?_)
  clear hK K
  try simp only [Act.put, List.getElem_toArray, List.getElem_cons_zero, List.getElem_cons_succ, List.setIfInBounds_toArray, List.set_cons_zero, List.set_cons_succ]
  refine wpAnyH_take (i := 1) (v := ?_) rfl (by kernel_rfl) (by kernel_rfl) (by kernel_rfl) (fun _ _ _ h => h) (Or.inl ⟨by rfl, ?_⟩) (by assumption) ?_
  rotate_left 1
  · intro w hSw
    go_simp
    try with_reducible rfl
  try simp only [Act.put, List.getElem_toArray, List.getElem_cons_zero, List.getElem_cons_succ, List.setIfInBounds_toArray, List.set_cons_zero, List.set_cons_succ]
  refine wpAnyH_take (i := 2) (v := .agg ca.toArray) rfl (by kernel_rfl) (by kernel_rfl) (by kernel_rfl) (fun _ _ _ h => h) (yieldsIf_load_mid (by rfl) 28 _ rfl w.heap.size 0 rfl ca _ (fun w hSw => hSw.1) hu28 rfl hsA) (by assumption) ?_
  try simp only [Act.put, List.getElem_toArray, List.getElem_cons_zero, List.getElem_cons_succ, List.setIfInBounds_toArray, List.set_cons_zero, List.set_cons_succ]
  refine wpAnyH_take (i := 3) (v := .agg cb.toArray) rfl (by kernel_rfl) (by kernel_rfl) (by kernel_rfl) (fun _ _ _ h => h) (yieldsIf_load_mid (by rfl) 28 _ rfl (w.heap.size + 1) 0 rfl cb _ (fun w hSw => hSw.2) hu28 rfl hsB) (by assumption) ?_
  try simp only [Act.put, List.getElem_toArray, List.getElem_cons_zero, List.getElem_cons_succ, List.setIfInBounds_toArray, List.set_cons_zero, List.set_cons_succ]
  refine wpAnyH_take (i := 5) (v := .agg ca.toArray) rfl (by kernel_rfl) (by kernel_rfl) (by kernel_rfl) (fun _ _ _ h => h) (yieldsIf_load_mid (by rfl) 28 _ rfl w.heap.size 0 rfl ca _ (fun w hSw => hSw.1) hu28 rfl hsA) (by assumption) ?_
  try simp only [Act.put, List.getElem_toArray, List.getElem_cons_zero, List.getElem_cons_succ, List.setIfInBounds_toArray, List.set_cons_zero, List.set_cons_succ]
  refine wpAnyH_take (i := 7) (v := .agg cb.toArray) rfl (by kernel_rfl) (by kernel_rfl) (by kernel_rfl) (fun _ _ _ h => h) (yieldsIf_load_mid (by rfl) 28 _ rfl (w.heap.size + 1) 0 rfl cb _ (fun w hSw => hSw.2) hu28 rfl hsB) (by assumption) ?_
  try simp only [Act.put, List.getElem_toArray, List.getElem_cons_zero, List.getElem_cons_succ, List.setIfInBounds_toArray, List.set_cons_zero, List.set_cons_succ]
  refine wpAnyH_ready (rs := [4]) (by kernel_rfl) (by simp) ?_
  refine AllReadyH.cons rfl (fun K hK => ?_) AllReadyH.nil
  go_simp
  refine (HLE.out _).mono ?_
  rintro e w' ⟨rfl, hk'⟩
  replace HB := hid_of (HB.out.trans hk')
  clear hk'
  refine hK.out _ _ ⟨range_kept HA.out HB.out (fun f => f), range_kept HBB.out HB.out (fun f => f)⟩ (fun hHeld => ?_)
  clear hK K
  try simp only [Act.put, List.getElem_toArray, List.getElem_cons_zero, List.getElem_cons_succ, List.setIfInBounds_toArray, List.set_cons_zero, List.set_cons_succ]
  refine wpAnyH_ready (rs := [6]) (by kernel_rfl) (by simp) ?_
  refine AllReadyH.cons rfl (fun K hK => ?_) AllReadyH.nil
  go_simp
  refine (HGA.out _).mono ?_
  rintro e w' ⟨rfl, hk'⟩
  replace HB := hid_of (HB.out.trans hk')
  clear hk'
  refine hK.out _ _ ⟨range_kept HA.out HB.out (fun f => f), range_kept HBB.out HB.out (fun f => f)⟩ (fun hHeld => ?_)
  clear hK K
  try simp only [Act.put, List.getElem_toArray, List.getElem_cons_zero, List.getElem_cons_succ, List.setIfInBounds_toArray, List.set_cons_zero, List.set_cons_succ]
  refine wpAnyH_ready (rs := [8]) (by kernel_rfl) (by simp) ?_
  refine AllReadyH.cons rfl (fun K hK => ?_) AllReadyH.nil
  go_simp
  refine (HGB.out _).mono ?_
  rintro e w' ⟨rfl, hk'⟩
  replace HB := hid_of (HB.out.trans hk')
  clear hk'
  refine hK.out _ _ ⟨range_kept HA.out HB.out (fun f => f), range_kept HBB.out HB.out (fun f => f)⟩ (fun hHeld => ?_)
  clear hK K
  try simp only [Act.put, List.getElem_toArray, List.getElem_cons_zero, List.getElem_cons_succ, List.setIfInBounds_toArray, List.set_cons_zero, List.set_cons_succ]
  refine wpAnyH_ready (rs := [9]) (by kernel_rfl) (by simp) ?_
  refine AllReadyH.cons rfl (fun K hK => ?_) AllReadyH.nil
  go_simp
  refine (HRL.out _).mono ?_
  rintro e w' ⟨rfl, hk'⟩
  replace HB := hid_of (HB.out.trans hk')
  clear hk'
  refine hK.out _ _ ⟨range_kept HA.out HB.out (fun f => f), range_kept HBB.out HB.out (fun f => f)⟩ (fun hHeld => ?_)
  clear hK K
  try simp only [Act.put, List.getElem_toArray, List.getElem_cons_zero, List.getElem_cons_succ, List.setIfInBounds_toArray, List.set_cons_zero, List.set_cons_succ]
  refine wpAnyH_take (i := 10) (v := ?_) rfl (by kernel_rfl) (by kernel_rfl) (by kernel_rfl) (fun _ _ _ h => h) (Or.inl ⟨by rfl, ?_⟩) (by assumption) ?_
  rotate_left 1
  · intro w hSw
    go_simp
    try with_reducible rfl
  try simp only [Act.put, List.getElem_toArray, List.getElem_cons_zero, List.getElem_cons_succ, List.setIfInBounds_toArray, List.set_cons_zero, List.set_cons_succ]
  refine wpAnyH_take (i := 11) (v := ?_) rfl (by kernel_rfl) (by kernel_rfl) (by kernel_rfl) (fun _ _ _ h => h) (Or.inl ⟨by rfl, ?_⟩) (by assumption) ?_
  rotate_left 1
  · intro w hSw
    go_simp
    try with_reducible rfl
  try simp only [Act.put, List.getElem_toArray, List.getElem_cons_zero, List.getElem_cons_succ, List.setIfInBounds_toArray, List.set_cons_zero, List.set_cons_succ]
  refine wpAnyH_take (i := 12) (v := ?_) rfl (by kernel_rfl) (by kernel_rfl) (by kernel_rfl) (fun _ _ _ h => h) (Or.inl ⟨by rfl, ?_⟩) (by assumption) ?_
  rotate_left 1
  · intro w hSw
    go_simp
    try with_reducible rfl
  try simp only [Act.put, List.getElem_toArray, List.getElem_cons_zero, List.getElem_cons_succ, List.setIfInBounds_toArray, List.set_cons_zero, List.set_cons_succ]
  refine wpAnyH_take (i := 13) (v := .agg ca.toArray) rfl (by kernel_rfl) (by kernel_rfl) (by kernel_rfl) (fun _ _ _ h => h) (yieldsIf_load_mid (by rfl) 28 _ rfl w.heap.size 0 rfl ca _ (fun w hSw => hSw.1) hu28 rfl hsA) (by assumption) ?_
  try simp only [Act.put, List.getElem_toArray, List.getElem_cons_zero, List.getElem_cons_succ, List.setIfInBounds_toArray, List.set_cons_zero, List.set_cons_succ]
  refine wpAnyH_take (i := 14) (v := .agg ca.toArray) rfl (by kernel_rfl) (by kernel_rfl) (by kernel_rfl) (fun _ _ _ h => h) (yieldsIf_load_mid (by rfl) 28 _ rfl w.heap.size 0 rfl ca _ (fun w hSw => hSw.1) hu28 rfl hsA) (by assumption) ?_
  try simp only [Act.put, List.getElem_toArray, List.getElem_cons_zero, List.getElem_cons_succ, List.setIfInBounds_toArray, List.set_cons_zero, List.set_cons_succ]
  refine wpAnyH_ready (rs := [15]) (by kernel_rfl) (by simp) ?_
  refine AllReadyH.cons rfl (fun K hK => ?_) AllReadyH.nil
  go_simp
  refine (HLA.out _).mono ?_
  rintro e w' ⟨rfl, hk'⟩
  replace HB := hid_of (HB.out.trans hk')
  clear hk'
  refine hK.out _ _ ⟨range_kept HA.out HB.out (fun f => f), range_kept HBB.out HB.out (fun f => f)⟩ (fun hHeld => ?_)
  clear hK K
  try simp only [Act.put, List.getElem_toArray, List.getElem_cons_zero, List.getElem_cons_succ, List.setIfInBounds_toArray, List.set_cons_zero, List.set_cons_succ]
  refine wpAnyH_take (i := 16) (v := ?_) rfl (by kernel_rfl) (by kernel_rfl) (by kernel_rfl) (fun _ _ _ h => h) (Or.inl ⟨by rfl, ?_⟩) (by assumption) ?_
  rotate_left 1
  · intro w hSw
    go_simp
    try with_reducible rfl
  try simp only [Act.put, List.getElem_toArray, List.getElem_cons_zero, List.getElem_cons_succ, List.setIfInBounds_toArray, List.set_cons_zero, List.set_cons_succ]
  refine wpAnyH_take (i := 17) (v := ?_) rfl (by kernel_rfl) (by kernel_rfl) (by kernel_rfl) (fun _ _ _ h => h) (Or.inl ⟨by rfl, ?_⟩) (by assumption) ?_
  rotate_left 1
  · intro w hSw
    go_simp
    try with_reducible rfl
  try simp only [Act.put, List.getElem_toArray, List.getElem_cons_zero, List.getElem_cons_succ, List.setIfInBounds_toArray, List.set_cons_zero, List.set_cons_succ]
  refine wpAnyH_take (i := 18) (v := ?_) rfl (by kernel_rfl) (by kernel_rfl) (by kernel_rfl) (fun _ _ _ h => h) (Or.inl ⟨by rfl, ?_⟩) (by assumption) ?_
  rotate_left 1
  · intro w hSw
    go_simp
    try with_reducible rfl
  try simp only [Act.put, List.getElem_toArray, List.getElem_cons_zero, List.getElem_cons_succ, List.setIfInBounds_toArray, List.set_cons_zero, List.set_cons_succ]
  refine wpAnyH_take (i := 19) (v := ?_) rfl (by kernel_rfl) (by kernel_rfl) (by kernel_rfl) (fun _ _ _ h => h) (Or.inl ⟨by rfl, ?_⟩) (by assumption) ?_
  rotate_left 1
  · intro w hSw
    go_simp
    try with_reducible rfl
  try simp only [Act.put, List.getElem_toArray, List.getElem_cons_zero, List.getElem_cons_succ, List.setIfInBounds_toArray, List.set_cons_zero, List.set_cons_succ]
  refine wpAnyH_take (i := 20) (v := ?_) rfl (by kernel_rfl) (by kernel_rfl) (by kernel_rfl) (fun _ _ _ h => h) (Or.inl ⟨by rfl, ?_⟩) (by assumption) ?_
  rotate_left 1
  · intro w hSw
    go_simp
    try with_reducible rfl
  try simp only [Act.put, List.getElem_toArray, List.getElem_cons_zero, List.getElem_cons_succ, List.setIfInBounds_toArray, List.set_cons_zero, List.set_cons_succ]
  refine wpAnyH_ready (rs := [21]) (by kernel_rfl) (by simp) ?_
  refine AllReadyH.cons rfl (fun K hK => ?_) AllReadyH.nil
  go_simp
  refine (less_lit _).mono ?_
  rintro e w' ⟨rfl, hk'⟩
  replace HB := hid_of (HB.out.trans hk')
  clear hk'
  refine hK.out _ _ ⟨range_kept HA.out HB.out (fun f => f), range_kept HBB.out HB.out (fun f => f)⟩ (fun hHeld => ?_)
  clear hK K
  try simp only [Act.put, List.getElem_toArray, List.getElem_cons_zero, List.getElem_cons_succ, List.setIfInBounds_toArray, List.set_cons_zero, List.set_cons_succ]
  refine wpAnyH_take (i := 22) (v := ?_) rfl (by kernel_rfl) (by kernel_rfl) (by kernel_rfl) (fun _ _ _ h => h) (Or.inl ⟨by rfl, ?_⟩) (by assumption) ?_
  rotate_left 1
  · intro w hSw
    go_simp
    try with_reducible rfl
  try simp only [Act.put, List.getElem_toArray, List.getElem_cons_zero, List.getElem_cons_succ, List.setIfInBounds_toArray, List.set_cons_zero, List.set_cons_succ]
  refine wpAnyH_take (i := 23) (v := ?_) rfl (by kernel_rfl) (by kernel_rfl) (by kernel_rfl) (fun _ _ _ h => h) (Or.inl ⟨by rfl, ?_⟩) (by assumption) ?_
  rotate_left 1
  · intro w hSw
    go_simp
    try with_reducible rfl
  try simp only [Act.put, List.getElem_toArray, List.getElem_cons_zero, List.getElem_cons_succ, List.setIfInBounds_toArray, List.set_cons_zero, List.set_cons_succ]
  refine wpAnyH_done (by kernel_rfl) ?_ _
  go_wp2
  go_ret
  exact ⟨rfl, HK.out.trans HB.out⟩
end Go.Proofs.YtdbogfjkaebeoaaDoor

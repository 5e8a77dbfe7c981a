/-
  Store.Plant, Put of what is too long, Len, by contract.
-/
import Derived.Test.YtjdbmjkidljhpaaDoorCget
namespace Go.Proofs.YtjdbmjkidljhpaaDoor
open Go.RowKit
set_option linter.unusedVariables false
set_option linter.unusedSimpArgs false
set_option maxRecDepth 100000

set_option maxHeartbeats 4000000 in
theorem plant_long {w : World} {s : Nat} {mv : Value} {σ : Sg} (h : Stor w s mv σ) (d : List Int) (hd : d.length = 32) (bv : Value) (xs : List Int) (hx : BIn w bv xs) (hn : xs.length ≤ 140737488355328) (hfit : fitsL d σ.wd = true) (hlong : 1048576 < xs.length) :
    Calls Tryd.prog 11 #[.pointer (some ⟨s, 0, none⟩), dv d, bv] w fun e w' => e = .returned (.int .i64 2) ∧ Kept (fun _ => False) w w' := by
  obtain ⟨bo, bc, hbv, _, _⟩ := id hx
  subst hbv
  have hds := size28_of d hd
  have HFI := hid_of (fun W => fits_any d σ.wd hd W)
  rw [hfit] at HFI
  have HW0 : Hid (w.cell? ⟨s, 0, none⟩ = some (.int .i64 σ.wd)) := h.cell 0
  clear h hx
  unfold dv
  clear hfit
  generalize (d.map (Value.int .u8)).toArray = ds at *
  have HKA : Hid (Kept (fun _ => False) w (w.alloc (.cells ds 28))) := (Kept.refl _ w).alloc _
  have HDA : Hid ((w.alloc (.cells ds 28)).heap[w.heap.size]? = some (.cells ds 28 (0, 0))) := alloc_new _ _ rfl
  go_enter Tryd.func11, Tryd.ntmps11
  go_wp2
  generalize w.alloc (.cells ds 28) = wA at *
  have cA := HKA.out.cell HW0.out (fun f => f)
  refine wp_region_held_drew (S := fun w' => w'.cell? ⟨s, 0, none⟩ = some (.int .i64 σ.wd) ∧ w'.heap[w.heap.size]? = some (.cells ds 28 (0, 0))) (by kernel_rfl) ⟨cA, HDA.out⟩ (fun hHeld => ?_)
  refine wpAnyH_take (i := 0) (v := .agg ds) rfl (by kernel_rfl) (by kernel_rfl) (by kernel_rfl) (fun _ _ _ h => h) (yields_row (by rfl) 28 _ rfl w.heap.size rfl 28 ds (0, 0) _ (fun w hSw => hSw.2) Tryd.underlying28 rfl hds) (by assumption) ?_
  try simp only [Act.put, List.getElem_toArray, List.getElem_cons_zero, List.getElem_cons_succ, List.setIfInBounds_toArray, List.set_cons_zero, List.set_cons_succ]
  refine wpAnyH_take (i := 1) (v := ?_) rfl (by kernel_rfl) (by kernel_rfl) (by kernel_rfl) (fun _ _ _ h => h) (Or.inl ⟨by rfl, ?_⟩) (by assumption) ?_
  rotate_left 1
  · intro w hSw
    obtain ⟨s1, s2⟩ := hSw
    go_simp
    try with_reducible rfl
  try simp only [Act.put, List.getElem_toArray, List.getElem_cons_zero, List.getElem_cons_succ, List.setIfInBounds_toArray, List.set_cons_zero, List.set_cons_succ]
  refine wpAnyH_take (i := 2) (v := ?_) rfl (by kernel_rfl) (by kernel_rfl) (by kernel_rfl) (fun _ _ _ h => h) (Or.inl ⟨by rfl, ?_⟩) (by assumption) ?_
  rotate_left 1
  · intro w hSw
    obtain ⟨s1, s2⟩ := hSw
    go_simp
    try with_reducible rfl
  try simp only [Act.put, List.getElem_toArray, List.getElem_cons_zero, List.getElem_cons_succ, List.setIfInBounds_toArray, List.set_cons_zero, List.set_cons_succ]
  refine wpAnyH_take (i := 3) (v := ?_) rfl (by kernel_rfl) (by kernel_rfl) (by kernel_rfl) (fun _ _ _ h => h) (Or.inl ⟨by rfl, ?_⟩) (by assumption) ?_
  rotate_left 1
  · intro w hSw
    obtain ⟨s1, s2⟩ := hSw
    go_simp
    try with_reducible rfl
  try simp only [Act.put, List.getElem_toArray, List.getElem_cons_zero, List.getElem_cons_succ, List.setIfInBounds_toArray, List.set_cons_zero, List.set_cons_succ]
  refine wpAnyH_take (i := 4) (v := ?_) rfl (by kernel_rfl) (by kernel_rfl) (by kernel_rfl) (fun _ _ _ h => h) (Or.inl ⟨by rfl, ?_⟩) (by assumption) ?_
  rotate_left 1
  · intro w hSw
    obtain ⟨s1, s2⟩ := hSw
    go_simp
    try with_reducible rfl
  try simp only [Act.put, List.getElem_toArray, List.getElem_cons_zero, List.getElem_cons_succ, List.setIfInBounds_toArray, List.set_cons_zero, List.set_cons_succ]
  refine wpAnyH_ready (rs := [5]) (by kernel_rfl) (by simp) ?_
  refine AllReadyH.cons rfl (fun K hK => ?_) AllReadyH.nil
  go_simp
  refine (HFI.out _).mono ?_
  rintro e w1 ⟨rfl, hk1⟩
  have hk1' : Kept (fun _ => False) wA w1 := (Kept.refl _ wA).drew.trans hk1
  have HKB := hid_of (HKA.out.trans hk1')
  have HDB := hid_of ((hk1'.block _ (heap_lt HDA.out) (fun f => f)).trans HDA.out)
  have cB := hk1'.cell cA (fun f => f)
  clear hk1 hk1'
  refine hK.out _ _ ⟨cB, HDB.out⟩ (fun hHeld => ?_)
  clear hK K
  try simp only [Act.put, List.getElem_toArray, List.getElem_cons_zero, List.getElem_cons_succ, List.setIfInBounds_toArray, List.set_cons_zero, List.set_cons_succ]
  refine wpAnyH_take (i := 6) (v := ?_) rfl (by kernel_rfl) (by kernel_rfl) (by kernel_rfl) (fun _ _ _ h => h) (Or.inl ⟨by rfl, ?_⟩) (by assumption) ?_
  rotate_left 1
  · intro w hSw
    go_simp
    try with_reducible rfl
  try simp only [Act.put, List.getElem_toArray, List.getElem_cons_zero, List.getElem_cons_succ, List.setIfInBounds_toArray, List.set_cons_zero, List.set_cons_succ]
  refine wpAnyH_done (by kernel_rfl) ?_ _
  go_wp2
  go_ret
  exact ⟨rfl, HKB.out⟩
set_option maxHeartbeats 4000000 in
theorem plant_ok {w : World} {s : Nat} {mv : Value} {σ : Sg} (h : Stor w s mv σ) (d : List Int) (hd : d.length = 32) (bv : Value) (xs : List Int) (hx : BIn w bv xs) (hn : xs.length ≤ 140737488355328) (hfit : fitsL d σ.wd = true) (hxr : ∀ x ∈ xs, 0 ≤ x ∧ x < 256) (hdr : ∀ x ∈ d, 0 ≤ x ∧ x < 256) (hnl : xs.length ≤ 1048576) (hu : 0 ≤ σ.us) (hu2 : σ.us ≤ 1099511627776) (hsp : 0 ≤ σ.sp) (hsp2 : σ.sp ≤ 1099511627776) (hov : usedOf σ d xs ≤ σ.cp) (hxs : xs ≠ [] → ∀ g, bv.ownBlock = some g → g ≠ s) :
    Calls Tryd.prog 11 #[.pointer (some ⟨s, 0, none⟩), dv d, bv] w fun e w' => e = .returned (.int .i64 0) ∧ ∃ mv' σ', LayOk w.heap.size σ σ' d xs ∧ Stor w' s mv' σ' ∧ Kept (Own s mv) w w' ∧ (mv' = mv ∨ ∃ r, mv' = .map (some r) ∧ w.heap.size ≤ r) := by
  obtain ⟨bo, bc, hbv, _, _⟩ := id hx
  subst hbv
  have hds := size28_of d hd
  have HFI := hid_of (fun W => fits_any d σ.wd hd W)
  rw [hfit] at HFI
  have HW0 : Hid (w.cell? ⟨s, 0, none⟩ = some (.int .i64 σ.wd)) := h.cell 0
  have HLAY : Hid (∀ W, Kept (fun _ => False) w W → Calls Tryd.prog 30 #[.pointer (some ⟨s, 0, none⟩), .agg (d.map (Value.int .u8)).toArray, .slice bo xs.length bc] W fun e' w' => e' = .returned (.int .i64 0) ∧ ∃ mv' σ', LayOk W.heap.size σ σ' d xs ∧ Stor w' s mv' σ' ∧ Kept (Own s mv) W w' ∧ (mv' = mv ∨ ∃ r, mv' = .map (some r) ∧ W.heap.size ≤ r)) := fun W hW => lay_ok (h.kept hW (fun _ _ f => f)) d hd hdr _ xs (hx.kept2 hW (fun _ _ _ f => f)) hxr hnl hu hu2 hsp hsp2 hov hxs
  clear h hx hov hxr hdr
  unfold dv
  clear hfit
  generalize (d.map (Value.int .u8)).toArray = ds at *
  have HKA : Hid (Kept (fun _ => False) w (w.alloc (.cells ds 28))) := (Kept.refl _ w).alloc _
  have HDA : Hid ((w.alloc (.cells ds 28)).heap[w.heap.size]? = some (.cells ds 28 (0, 0))) := alloc_new _ _ rfl
  go_enter Tryd.func11, Tryd.ntmps11
  go_wp2
  generalize w.alloc (.cells ds 28) = wA at *
  have cA := HKA.out.cell HW0.out (fun f => f)
  refine wp_region_held_drew (S := fun w' => w'.cell? ⟨s, 0, none⟩ = some (.int .i64 σ.wd) ∧ w'.heap[w.heap.size]? = some (.cells ds 28 (0, 0))) (by kernel_rfl) ⟨cA, HDA.out⟩ (fun hHeld => ?_)
  refine wpAnyH_take (i := 0) (v := .agg ds) rfl (by kernel_rfl) (by kernel_rfl) (by kernel_rfl) (fun _ _ _ h => h) (yields_row (by rfl) 28 _ rfl w.heap.size rfl 28 ds (0, 0) _ (fun w hSw => hSw.2) Tryd.underlying28 rfl hds) (by assumption) ?_
  try simp only [Act.put, List.getElem_toArray, List.getElem_cons_zero, List.getElem_cons_succ, List.setIfInBounds_toArray, List.set_cons_zero, List.set_cons_succ]
  refine wpAnyH_take (i := 1) (v := ?_) rfl (by kernel_rfl) (by kernel_rfl) (by kernel_rfl) (fun _ _ _ h => h) (Or.inl ⟨by rfl, ?_⟩) (by assumption) ?_
  rotate_left 1
  · intro w hSw
    obtain ⟨s1, s2⟩ := hSw
    go_simp
    try with_reducible rfl
  try simp only [Act.put, List.getElem_toArray, List.getElem_cons_zero, List.getElem_cons_succ, List.setIfInBounds_toArray, List.set_cons_zero, List.set_cons_succ]
  refine wpAnyH_take (i := 2) (v := ?_) rfl (by kernel_rfl) (by kernel_rfl) (by kernel_rfl) (fun _ _ _ h => h) (Or.inl ⟨by rfl, ?_⟩) (by assumption) ?_
  rotate_left 1
  · intro w hSw
    obtain ⟨s1, s2⟩ := hSw
    go_simp
    try with_reducible rfl
  try simp only [Act.put, List.getElem_toArray, List.getElem_cons_zero, List.getElem_cons_succ, List.setIfInBounds_toArray, List.set_cons_zero, List.set_cons_succ]
  refine wpAnyH_take (i := 3) (v := ?_) rfl (by kernel_rfl) (by kernel_rfl) (by kernel_rfl) (fun _ _ _ h => h) (Or.inl ⟨by rfl, ?_⟩) (by assumption) ?_
  rotate_left 1
  · intro w hSw
    obtain ⟨s1, s2⟩ := hSw
    go_simp
    try with_reducible rfl
  try simp only [Act.put, List.getElem_toArray, List.getElem_cons_zero, List.getElem_cons_succ, List.setIfInBounds_toArray, List.set_cons_zero, List.set_cons_succ]
  refine wpAnyH_take (i := 4) (v := ?_) rfl (by kernel_rfl) (by kernel_rfl) (by kernel_rfl) (fun _ _ _ h => h) (Or.inl ⟨by rfl, ?_⟩) (by assumption) ?_
  rotate_left 1
  · intro w hSw
    obtain ⟨s1, s2⟩ := hSw
    go_simp
    try with_reducible rfl
  try simp only [Act.put, List.getElem_toArray, List.getElem_cons_zero, List.getElem_cons_succ, List.setIfInBounds_toArray, List.set_cons_zero, List.set_cons_succ]
  refine wpAnyH_ready (rs := [5]) (by kernel_rfl) (by simp) ?_
  refine AllReadyH.cons rfl (fun K hK => ?_) AllReadyH.nil
  go_simp
  refine (HFI.out _).mono ?_
  rintro e w1 ⟨rfl, hk1⟩
  have hk1' : Kept (fun _ => False) wA w1 := (Kept.refl _ wA).drew.trans hk1
  have HKB := hid_of (HKA.out.trans hk1')
  have HDB := hid_of ((hk1'.block _ (heap_lt HDA.out) (fun f => f)).trans HDA.out)
  have cB := hk1'.cell cA (fun f => f)
  clear hk1 hk1'
  refine hK.out _ _ ⟨cB, HDB.out⟩ (fun hHeld => ?_)
  clear hK K
  try simp only [Act.put, List.getElem_toArray, List.getElem_cons_zero, List.getElem_cons_succ, List.setIfInBounds_toArray, List.set_cons_zero, List.set_cons_succ]
  refine wpAnyH_take (i := 6) (v := ?_) rfl (by kernel_rfl) (by kernel_rfl) (by kernel_rfl) (fun _ _ _ h => h) (Or.inl ⟨by rfl, ?_⟩) (by assumption) ?_
  rotate_left 1
  · intro w hSw
    go_simp
    try with_reducible rfl
  try simp only [Act.put, List.getElem_toArray, List.getElem_cons_zero, List.getElem_cons_succ, List.setIfInBounds_toArray, List.set_cons_zero, List.set_cons_succ]
  refine wpAnyH_done (by kernel_rfl) ?_ _
  go_wp2_with (refine wpList_load_row rfl 28 _ rfl w.heap.size rfl 28 ds (0, 0) _ HDB.out Tryd.underlying28 rfl hds ?_)
  refine (HLAY.out w1 HKB.out).mono ?_
  rintro e w2 ⟨rfl, mv', σ', hlo, hS, hk2, hmv⟩
  have HE : Hid (∃ mv' σ', LayOk w.heap.size σ σ' d xs ∧ Stor w2 s mv' σ' ∧ Kept (Own s mv) w w2 ∧ (mv' = mv ∨ ∃ r, mv' = .map (some r) ∧ w.heap.size ≤ r)) := by
    have hsz := HKB.out.size
    obtain ⟨bv', born, hb1, hb2⟩ := hlo
    refine ⟨mv', σ', ⟨bv', born, fun g hg => by have := hb1 g hg; omega, hb2⟩, hS, (HKB.out.mono (T := Own s mv) (fun _ _ f => f.elim)).trans hk2, ?_⟩
    rcases hmv with h7 | ⟨r, h7, h8⟩
    · exact .inl h7
    · exact .inr ⟨r, h7, by omega⟩
  clear hlo hS hk2 hmv HLAY
  go_wp2
  go_ret
  exact ⟨rfl, HE.out⟩
set_option maxHeartbeats 2000000 in
theorem put_long {w : World} {s : Nat} {mv : Value} {σ : Sg} (h : Stor w s mv σ) (bv : Value) (xs : List Int) (hx : BIn w bv xs) (hn : 1048576 < xs.length) (hn2 : xs.length ≤ 140737488355328) (hpt : 0 ≤ σ.pt) (hpt2 : σ.pt ≤ 1099511627776) :
    Calls Tryd.prog 10 #[.pointer (some ⟨s, 0, none⟩), bv] w fun e w' => e = .returned (.tuple #[dv zeros32, .int .i64 2]) ∧ Stor w' s mv σ.put1 ∧ Kept (fun k => k = s) w w' := by
  obtain ⟨bo, bc, hbv, _, _⟩ := id hx
  subst hbv
  have hPN : (1048576 : Int) < (xs.length : Int) := by omega
  have c6 : w.cell? ⟨s, 6, none⟩ = some (.int .i64 σ.pt) := h.cell 6
  have f6 := h.fz 6
  have hsl := h.lt
  have hwp : IntKind.i64.wrap (σ.pt + 1) = σ.pt + 1 := by rw [IntKind.wrap_i64]; omega
  obtain ⟨hS1, hK1⟩ := h.set (σ' := σ.put1) 6 (.int .i64 (σ.pt + 1)) rfl rfl
  have HSA : Hid (Stor ((w.setCell ⟨s, 6, none⟩ (.int .i64 (σ.pt + 1))).alloc (.cells #[.int .u8 0, .int .u8 0, .int .u8 0, .int .u8 0, .int .u8 0, .int .u8 0, .int .u8 0, .int .u8 0, .int .u8 0, .int .u8 0, .int .u8 0, .int .u8 0, .int .u8 0, .int .u8 0, .int .u8 0, .int .u8 0, .int .u8 0, .int .u8 0, .int .u8 0, .int .u8 0, .int .u8 0, .int .u8 0, .int .u8 0, .int .u8 0, .int .u8 0, .int .u8 0, .int .u8 0, .int .u8 0, .int .u8 0, .int .u8 0, .int .u8 0, .int .u8 0] 28)) s mv σ.put1) := hS1.kept ((Kept.refl (fun _ => False) _).alloc _) (fun _ _ f => f)
  have HKA : Hid (Kept (fun k => k = s) w ((w.setCell ⟨s, 6, none⟩ (.int .i64 (σ.pt + 1))).alloc (.cells #[.int .u8 0, .int .u8 0, .int .u8 0, .int .u8 0, .int .u8 0, .int .u8 0, .int .u8 0, .int .u8 0, .int .u8 0, .int .u8 0, .int .u8 0, .int .u8 0, .int .u8 0, .int .u8 0, .int .u8 0, .int .u8 0, .int .u8 0, .int .u8 0, .int .u8 0, .int .u8 0, .int .u8 0, .int .u8 0, .int .u8 0, .int .u8 0, .int .u8 0, .int .u8 0, .int .u8 0, .int .u8 0, .int .u8 0, .int .u8 0, .int .u8 0, .int .u8 0] 28))) := hK1.alloc _
  have hsz : (w.setCell ⟨s, 6, none⟩ (.int .i64 (σ.pt + 1))).heap.size = w.heap.size := by simp [World.setCell]
  have HZA : Hid (((w.setCell ⟨s, 6, none⟩ (.int .i64 (σ.pt + 1))).alloc (.cells #[.int .u8 0, .int .u8 0, .int .u8 0, .int .u8 0, .int .u8 0, .int .u8 0, .int .u8 0, .int .u8 0, .int .u8 0, .int .u8 0, .int .u8 0, .int .u8 0, .int .u8 0, .int .u8 0, .int .u8 0, .int .u8 0, .int .u8 0, .int .u8 0, .int .u8 0, .int .u8 0, .int .u8 0, .int .u8 0, .int .u8 0, .int .u8 0, .int .u8 0, .int .u8 0, .int .u8 0, .int .u8 0, .int .u8 0, .int .u8 0, .int .u8 0, .int .u8 0] 28)).heap[w.heap.size]? = some (.cells #[.int .u8 0, .int .u8 0, .int .u8 0, .int .u8 0, .int .u8 0, .int .u8 0, .int .u8 0, .int .u8 0, .int .u8 0, .int .u8 0, .int .u8 0, .int .u8 0, .int .u8 0, .int .u8 0, .int .u8 0, .int .u8 0, .int .u8 0, .int .u8 0, .int .u8 0, .int .u8 0, .int .u8 0, .int .u8 0, .int .u8 0, .int .u8 0, .int .u8 0, .int .u8 0, .int .u8 0, .int .u8 0, .int .u8 0, .int .u8 0, .int .u8 0, .int .u8 0] 28 (0, 0))) := alloc_new _ _ hsz.symm
  have HFAR : Hid (∀ e' ∈ σ.es, e'.xs ≠ [] → e'.bv.ownBlock ≠ some w.heap.size) := fun e' he' hx0 hg => by
    obtain ⟨i, u, hu⟩ := (h.blob e' he').1.lt hx0 _ hg
    obtain ⟨cc, t, f, h7⟩ := cell_cells hu
    have := heap_lt h7
    omega
  have hz28 : (Tryd.prog.info? 28).map (·.size) = some (#[.int .u8 0, .int .u8 0, .int .u8 0, .int .u8 0, .int .u8 0, .int .u8 0, .int .u8 0, .int .u8 0, .int .u8 0, .int .u8 0, .int .u8 0, .int .u8 0, .int .u8 0, .int .u8 0, .int .u8 0, .int .u8 0, .int .u8 0, .int .u8 0, .int .u8 0, .int .u8 0, .int .u8 0, .int .u8 0, .int .u8 0, .int .u8 0, .int .u8 0, .int .u8 0, .int .u8 0, .int .u8 0, .int .u8 0, .int .u8 0, .int .u8 0, .int .u8 0] : Array Value).size := size28
  have hzone : (#[.int .u8 0, .int .u8 0, .int .u8 0, .int .u8 0, .int .u8 0, .int .u8 0, .int .u8 0, .int .u8 0, .int .u8 0, .int .u8 0, .int .u8 0, .int .u8 0, .int .u8 0, .int .u8 0, .int .u8 0, .int .u8 0, .int .u8 0, .int .u8 0, .int .u8 0, .int .u8 0, .int .u8 0, .int .u8 0, .int .u8 0, .int .u8 0, .int .u8 0, .int .u8 0, .int .u8 0, .int .u8 0, .int .u8 0, .int .u8 0, .int .u8 0, .int .u8 0] : Array Value).all (·.oneCell') = true := oneCells .u8 zeros32
  have HRZ : Hid (dv zeros32 = .agg #[.int .u8 0, .int .u8 0, .int .u8 0, .int .u8 0, .int .u8 0, .int .u8 0, .int .u8 0, .int .u8 0, .int .u8 0, .int .u8 0, .int .u8 0, .int .u8 0, .int .u8 0, .int .u8 0, .int .u8 0, .int .u8 0, .int .u8 0, .int .u8 0, .int .u8 0, .int .u8 0, .int .u8 0, .int .u8 0, .int .u8 0, .int .u8 0, .int .u8 0, .int .u8 0, .int .u8 0, .int .u8 0, .int .u8 0, .int .u8 0, .int .u8 0, .int .u8 0]) := rfl
  have HKR := hid_of (HKA.out.setRow (g := w.heap.size) (.inl (Nat.le_refl _)) #[.int .u8 0, .int .u8 0, .int .u8 0, .int .u8 0, .int .u8 0, .int .u8 0, .int .u8 0, .int .u8 0, .int .u8 0, .int .u8 0, .int .u8 0, .int .u8 0, .int .u8 0, .int .u8 0, .int .u8 0, .int .u8 0, .int .u8 0, .int .u8 0, .int .u8 0, .int .u8 0, .int .u8 0, .int .u8 0, .int .u8 0, .int .u8 0, .int .u8 0, .int .u8 0, .int .u8 0, .int .u8 0, .int .u8 0, .int .u8 0, .int .u8 0, .int .u8 0])
  have HSR := hid_of (HSA.out.setRow w.heap.size #[.int .u8 0, .int .u8 0, .int .u8 0, .int .u8 0, .int .u8 0, .int .u8 0, .int .u8 0, .int .u8 0, .int .u8 0, .int .u8 0, .int .u8 0, .int .u8 0, .int .u8 0, .int .u8 0, .int .u8 0, .int .u8 0, .int .u8 0, .int .u8 0, .int .u8 0, .int .u8 0, .int .u8 0, .int .u8 0, .int .u8 0, .int .u8 0, .int .u8 0, .int .u8 0, .int .u8 0, .int .u8 0, .int .u8 0, .int .u8 0, .int .u8 0, .int .u8 0] HZA.out ⟨by omega, HFAR.out⟩)
  have HRR := hid_of (setRow_heap _ w.heap.size _ #[.int .u8 0, .int .u8 0, .int .u8 0, .int .u8 0, .int .u8 0, .int .u8 0, .int .u8 0, .int .u8 0, .int .u8 0, .int .u8 0, .int .u8 0, .int .u8 0, .int .u8 0, .int .u8 0, .int .u8 0, .int .u8 0, .int .u8 0, .int .u8 0, .int .u8 0, .int .u8 0, .int .u8 0, .int .u8 0, .int .u8 0, .int .u8 0, .int .u8 0, .int .u8 0, .int .u8 0, .int .u8 0, .int .u8 0, .int .u8 0, .int .u8 0, .int .u8 0] 28 (0, 0) HZA.out)
  clear hS1 hK1 hsz h hx
  go_enter Tryd.func10, Tryd.ntmps10
  go_wp2_with (refine wpList_store_row rfl 28 _ _ rfl w.heap.size #[.int .u8 0, .int .u8 0, .int .u8 0, .int .u8 0, .int .u8 0, .int .u8 0, .int .u8 0, .int .u8 0, .int .u8 0, .int .u8 0, .int .u8 0, .int .u8 0, .int .u8 0, .int .u8 0, .int .u8 0, .int .u8 0, .int .u8 0, .int .u8 0, .int .u8 0, .int .u8 0, .int .u8 0, .int .u8 0, .int .u8 0, .int .u8 0, .int .u8 0, .int .u8 0, .int .u8 0, .int .u8 0, .int .u8 0, .int .u8 0, .int .u8 0, .int .u8 0] rfl rfl 28 _ HZA.out hz28 rfl hzone ?_)
  try simp only [Act.put]
  refine bodyPost_ret (v := .tuple #[.agg #[.int .u8 0, .int .u8 0, .int .u8 0, .int .u8 0, .int .u8 0, .int .u8 0, .int .u8 0, .int .u8 0, .int .u8 0, .int .u8 0, .int .u8 0, .int .u8 0, .int .u8 0, .int .u8 0, .int .u8 0, .int .u8 0, .int .u8 0, .int .u8 0, .int .u8 0, .int .u8 0, .int .u8 0, .int .u8 0, .int .u8 0, .int .u8 0, .int .u8 0, .int .u8 0, .int .u8 0, .int .u8 0, .int .u8 0, .int .u8 0, .int .u8 0, .int .u8 0], .int .i64 2]) ?_ rfl ⟨by rw [HRZ.out], HSR.out, HKR.out⟩
  exact results_row_tmp (fn := Tryd.f10) (p := 4) (u := 5) (by rfl) _ _ w.heap.size 28 #[.int .u8 0, .int .u8 0, .int .u8 0, .int .u8 0, .int .u8 0, .int .u8 0, .int .u8 0, .int .u8 0, .int .u8 0, .int .u8 0, .int .u8 0, .int .u8 0, .int .u8 0, .int .u8 0, .int .u8 0, .int .u8 0, .int .u8 0, .int .u8 0, .int .u8 0, .int .u8 0, .int .u8 0, .int .u8 0, .int .u8 0, .int .u8 0, .int .u8 0, .int .u8 0, .int .u8 0, .int .u8 0, .int .u8 0, .int .u8 0, .int .u8 0, .int .u8 0] (0, 0) _ (by rfl) HRR.out Tryd.underlying28 rfl hz28

theorem len_none {w : World} {s : Nat} {σ : Sg} (h : Stor w s (.map none) σ) : Calls Tryd.prog 25 #[.pointer (some ⟨s, 0, none⟩)] w fun e w' => e = .returned (.int .i64 0) ∧ w' = w := by
  have c' : w.cell? ⟨s, 2, none⟩ = some (.map none) := h.cell 2
  clear h
  go_enter Tryd.func25, Tryd.ntmps25
  go_wp2
  go_ret
  exact ⟨rfl, rfl⟩
end Go.Proofs.YtjdbmjkidljhpaaDoor

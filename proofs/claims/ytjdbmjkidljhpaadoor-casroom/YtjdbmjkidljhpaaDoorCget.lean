/-
  Store.Get, by contract.
-/
import Derived.Test.YtjdbmjkidljhpaaDoorCraw
namespace Go.Proofs.YtjdbmjkidljhpaaDoor
open Go.RowKit
set_option linter.unusedVariables false
set_option linter.unusedSimpArgs false
set_option maxRecDepth 100000

theorem field0 (W : World) (a b : Value) : (Instr.field 65 (.agg #[a, b]) 0).run Tryd.prog W = .ok a W := by kernel_rfl
/-- A Get is counted. -/
def Sg.get1 (σ : Sg) : Sg := { σ with gt := σ.gt + 1 }

set_option maxHeartbeats 4000000 in
theorem get_missing {w : World} {s : Nat} {mv : Value} {σ : Sg} (h : Stor w s mv σ) (hL : Laid w) (hs0 : s ≠ 0) (k : Nat) (hk : σ.wd = k) (h1 : 1 ≤ k) (h2 : k ≤ 32) (d : List Int) (hd : d.length = 32) (hgt : 0 ≤ σ.gt) (hgt2 : σ.gt ≤ 1099511627776) (he : look σ.es d = none) :
    Calls Tryd.prog 15 #[.pointer (some ⟨s, 0, none⟩), dv d] w fun e w' => e = .returned (.tuple #[.slice none 0 0, .int .i64 41]) ∧ Stor w' s mv σ.get1 ∧ Kept (fun k => k = s) w w' := by
  have hds := size28_of d hd
  have HHAS : Hid (∀ W, Stor W s mv σ.get1 → Calls Tryd.prog 34 #[.pointer (some ⟨s, 0, none⟩), .agg (d.map (Value.int .u8)).toArray] W fun e w' => e = .returned (.bool (look σ.es d).isSome) ∧ Kept (fun _ => False) W w') := fun W hW => has_any hW d hd
  have HWH : Hid (∀ W, Stor W s mv σ.get1 → Laid W → Calls Tryd.prog 22 #[.pointer (some ⟨s, 0, none⟩), .agg (d.map (Value.int .u8)).toArray] W fun e w' => e = .returned (.bool (wholeB k σ.es d)) ∧ Kept (fun _ => False) W w') := fun W hW hLW => whole_any hW hLW k hk h1 h2 d hd
  rw [he] at HHAS
  clear he
  have c5 : w.cell? ⟨s, 5, none⟩ = some (.int .i64 σ.gt) := h.cell 5
  have f5 := h.fz 5
  have hsl := h.lt
  have hwp : IntKind.i64.wrap (σ.gt + 1) = σ.gt + 1 := by rw [IntKind.wrap_i64]; omega
  obtain ⟨hS1, hK1⟩ := h.set (σ' := σ.get1) 5 (.int .i64 (σ.gt + 1)) rfl rfl
  unfold dv
  generalize (d.map (Value.int .u8)).toArray = ds at *
  have HSA : Hid (Stor ((w.setCell ⟨s, 5, none⟩ (.int .i64 (σ.gt + 1))).alloc (.cells ds 28)) s mv σ.get1) := hS1.kept ((Kept.refl (fun _ => False) _).alloc _) (fun _ _ f => f)
  have HKA : Hid (Kept (fun k => k = s) w ((w.setCell ⟨s, 5, none⟩ (.int .i64 (σ.gt + 1))).alloc (.cells ds 28))) := hK1.alloc _
  have hsz : (w.setCell ⟨s, 5, none⟩ (.int .i64 (σ.gt + 1))).heap.size = w.heap.size := by simp [World.setCell]
  have HDA : Hid (((w.setCell ⟨s, 5, none⟩ (.int .i64 (σ.gt + 1))).alloc (.cells ds 28)).heap[w.heap.size]? = some (.cells ds 28 (0, 0))) := alloc_new _ _ hsz.symm
  have HLA := hid_of (laid_kept hL HKA.out (fun e => hs0 e.symm))
  clear hS1 hK1 hsz h hL
  go_enter Tryd.func15, Tryd.ntmps15
  go_wp2_with (refine wpList_load_row rfl 28 _ rfl w.heap.size rfl 28 ds (0, 0) _ HDA.out Tryd.underlying28 rfl hds ?_)
  generalize (w.setCell ⟨s, 5, none⟩ (.int .i64 (σ.gt + 1))).alloc (.cells ds 28) = wA at *
  refine (HHAS.out wA HSA.out).mono ?_
  rintro e w1 ⟨rfl, hk1⟩
  have HSB := hid_of (HSA.out.kept hk1 (fun _ _ f => f))
  have HKB := hid_of (HKA.out.trans (hk1.mono (T := fun k => k = s) (fun _ _ f => f.elim)))
  have HDB := hid_of ((hk1.block _ (heap_lt HDA.out) (fun f => f)).trans HDA.out)
  have HLB := hid_of (laid_kept HLA.out hk1 (fun f => f))
  clear hk1 HSA HKA HDA HLA HHAS
  go_wp2
  exact bodyPost_ret (v := .tuple #[.slice none 0 0, .int .i64 41]) (by simp [results, Tryd.results15, go_sem]) rfl ⟨rfl, HSB.out, HKB.out⟩
set_option maxHeartbeats 4000000 in
theorem get_corrupt {w : World} {s : Nat} {mv : Value} {σ : Sg} (h : Stor w s mv σ) (hL : Laid w) (hs0 : s ≠ 0) (k : Nat) (hk : σ.wd = k) (h1 : 1 ≤ k) (h2 : k ≤ 32) (d : List Int) (hd : d.length = 32) (hgt : 0 ≤ σ.gt) (hgt2 : σ.gt ≤ 1099511627776) (he : (look σ.es d).isSome = true) (hwh : wholeB k σ.es d = false) :
    Calls Tryd.prog 15 #[.pointer (some ⟨s, 0, none⟩), dv d] w fun e w' => e = .returned (.tuple #[.slice none 0 0, .int .i64 42]) ∧ Stor w' s mv σ.get1 ∧ Kept (fun k => k = s) w w' := by
  have hds := size28_of d hd
  have HHAS : Hid (∀ W, Stor W s mv σ.get1 → Calls Tryd.prog 34 #[.pointer (some ⟨s, 0, none⟩), .agg (d.map (Value.int .u8)).toArray] W fun e w' => e = .returned (.bool (look σ.es d).isSome) ∧ Kept (fun _ => False) W w') := fun W hW => has_any hW d hd
  have HWH : Hid (∀ W, Stor W s mv σ.get1 → Laid W → Calls Tryd.prog 22 #[.pointer (some ⟨s, 0, none⟩), .agg (d.map (Value.int .u8)).toArray] W fun e w' => e = .returned (.bool (wholeB k σ.es d)) ∧ Kept (fun _ => False) W w') := fun W hW hLW => whole_any hW hLW k hk h1 h2 d hd
  rw [he] at HHAS
  rw [hwh] at HWH
  clear he hwh
  have c5 : w.cell? ⟨s, 5, none⟩ = some (.int .i64 σ.gt) := h.cell 5
  have f5 := h.fz 5
  have hsl := h.lt
  have hwp : IntKind.i64.wrap (σ.gt + 1) = σ.gt + 1 := by rw [IntKind.wrap_i64]; omega
  obtain ⟨hS1, hK1⟩ := h.set (σ' := σ.get1) 5 (.int .i64 (σ.gt + 1)) rfl rfl
  unfold dv
  generalize (d.map (Value.int .u8)).toArray = ds at *
  have HSA : Hid (Stor ((w.setCell ⟨s, 5, none⟩ (.int .i64 (σ.gt + 1))).alloc (.cells ds 28)) s mv σ.get1) := hS1.kept ((Kept.refl (fun _ => False) _).alloc _) (fun _ _ f => f)
  have HKA : Hid (Kept (fun k => k = s) w ((w.setCell ⟨s, 5, none⟩ (.int .i64 (σ.gt + 1))).alloc (.cells ds 28))) := hK1.alloc _
  have hsz : (w.setCell ⟨s, 5, none⟩ (.int .i64 (σ.gt + 1))).heap.size = w.heap.size := by simp [World.setCell]
  have HDA : Hid (((w.setCell ⟨s, 5, none⟩ (.int .i64 (σ.gt + 1))).alloc (.cells ds 28)).heap[w.heap.size]? = some (.cells ds 28 (0, 0))) := alloc_new _ _ hsz.symm
  have HLA := hid_of (laid_kept hL HKA.out (fun e => hs0 e.symm))
  clear hS1 hK1 hsz h hL
  go_enter Tryd.func15, Tryd.ntmps15
  go_wp2_with (refine wpList_load_row rfl 28 _ rfl w.heap.size rfl 28 ds (0, 0) _ HDA.out Tryd.underlying28 rfl hds ?_)
  generalize (w.setCell ⟨s, 5, none⟩ (.int .i64 (σ.gt + 1))).alloc (.cells ds 28) = wA at *
  refine (HHAS.out wA HSA.out).mono ?_
  rintro e w1 ⟨rfl, hk1⟩
  have HSB := hid_of (HSA.out.kept hk1 (fun _ _ f => f))
  have HKB := hid_of (HKA.out.trans (hk1.mono (T := fun k => k = s) (fun _ _ f => f.elim)))
  have HDB := hid_of ((hk1.block _ (heap_lt HDA.out) (fun f => f)).trans HDA.out)
  have HLB := hid_of (laid_kept HLA.out hk1 (fun f => f))
  clear hk1 HSA HKA HDA HLA HHAS
  go_wp2_with (refine wpList_load_row rfl 28 _ rfl w.heap.size rfl 28 ds (0, 0) _ HDB.out Tryd.underlying28 rfl hds ?_)
  refine (HWH.out w1 HSB.out HLB.out).mono ?_
  rintro e w2 ⟨rfl, hk2⟩
  have HSC := hid_of (HSB.out.kept hk2 (fun _ _ f => f))
  have HKC := hid_of (HKB.out.trans (hk2.mono (T := fun k => k = s) (fun _ _ f => f.elim)))
  have HDC := hid_of ((hk2.block _ (heap_lt HDB.out) (fun f => f)).trans HDB.out)
  clear hk2 HSB HKB HDB HLB HWH
  go_wp2
  exact bodyPost_ret (v := .tuple #[.slice none 0 0, .int .i64 42]) (by simp [results, Tryd.results15, go_sem]) rfl ⟨rfl, HSC.out, HKC.out⟩
set_option maxHeartbeats 4000000 in
theorem get_ok {w : World} {s : Nat} {mv : Value} {σ : Sg} (h : Stor w s mv σ) (hL : Laid w) (hs0 : s ≠ 0) (k : Nat) (hk : σ.wd = k) (h1 : 1 ≤ k) (h2 : k ≤ 32) (d : List Int) (hd : d.length = 32) (hgt : 0 ≤ σ.gt) (hgt2 : σ.gt ≤ 1099511627776) (hwh : wholeB k σ.es d = true) :
    Calls Tryd.prog 15 #[.pointer (some ⟨s, 0, none⟩), dv d] w fun e w' => ∃ v, e = .returned (.tuple #[v, .int .i64 0]) ∧ BIn w' v (rawX σ.es d) ∧ (∀ g, v.ownBlock = some g → w.heap.size ≤ g) ∧ Stor w' s mv σ.get1 ∧ Kept (fun k => k = s) w w' := by
  have he : (look σ.es d).isSome = true := by
    unfold wholeB at hwh
    cases hl : look σ.es d with
    | none => rw [hl] at hwh; cases hwh
    | some e => rfl
  obtain ⟨ao, n, c, st, hV⟩ := h.shape d
  have HLK : Hid (∀ W, Stor W s mv σ.get1 → (Instr.lookup 59 mv (.agg (d.map (Value.int .u8)).toArray) false).run Tryd.prog W = .ok (.agg #[.slice ao n c, .int .i64 st]) W) := fun W hW => by
    have h7 := hW.found d hd false
    have h8 : σ.get1.es = σ.es := rfl
    rw [h8, hV] at h7
    exact h7
  have HCL : Hid (∀ W, Stor W s mv σ.get1 → Calls Tryd.prog 35 #[.slice ao n c] W fun e w' => ∃ v', e = .returned v' ∧ BIn w' v' (rawX σ.es d) ∧ (∀ g, v'.ownBlock = some g → W.heap.size ≤ g ∧ g < w'.heap.size) ∧ Kept (fun _ => False) W w') := fun W hW => by
    obtain ⟨hb1, hb2, hb3⟩ := hW.rawb d (show lookV σ.get1.es d = _ from hV)
    exact clone_any _ _ W hb1 (by have h9 : (rawX σ.es d).length ≤ 1048576 := hb2; omega)
  have hds := size28_of d hd
  have HHAS : Hid (∀ W, Stor W s mv σ.get1 → Calls Tryd.prog 34 #[.pointer (some ⟨s, 0, none⟩), .agg (d.map (Value.int .u8)).toArray] W fun e w' => e = .returned (.bool (look σ.es d).isSome) ∧ Kept (fun _ => False) W w') := fun W hW => has_any hW d hd
  have HWH : Hid (∀ W, Stor W s mv σ.get1 → Laid W → Calls Tryd.prog 22 #[.pointer (some ⟨s, 0, none⟩), .agg (d.map (Value.int .u8)).toArray] W fun e w' => e = .returned (.bool (wholeB k σ.es d)) ∧ Kept (fun _ => False) W w') := fun W hW hLW => whole_any hW hLW k hk h1 h2 d hd
  rw [he] at HHAS
  rw [hwh] at HWH
  have HQF : Hid (∀ W : World, (Instr.field 65 (.agg #[.slice ao n c, .int .i64 st]) 0).run Tryd.prog W = .ok (.slice ao n c) W) := fun W => field0 W _ _
  clear he hwh hV
  generalize rawX σ.es d = xs at *
  have c5 : w.cell? ⟨s, 5, none⟩ = some (.int .i64 σ.gt) := h.cell 5
  have f5 := h.fz 5
  have hsl := h.lt
  have hwp : IntKind.i64.wrap (σ.gt + 1) = σ.gt + 1 := by rw [IntKind.wrap_i64]; omega
  obtain ⟨hS1, hK1⟩ := h.set (σ' := σ.get1) 5 (.int .i64 (σ.gt + 1)) rfl rfl
  unfold dv
  generalize (d.map (Value.int .u8)).toArray = ds at *
  have HSA : Hid (Stor ((w.setCell ⟨s, 5, none⟩ (.int .i64 (σ.gt + 1))).alloc (.cells ds 28)) s mv σ.get1) := hS1.kept ((Kept.refl (fun _ => False) _).alloc _) (fun _ _ f => f)
  have HKA : Hid (Kept (fun k => k = s) w ((w.setCell ⟨s, 5, none⟩ (.int .i64 (σ.gt + 1))).alloc (.cells ds 28))) := hK1.alloc _
  have hsz : (w.setCell ⟨s, 5, none⟩ (.int .i64 (σ.gt + 1))).heap.size = w.heap.size := by simp [World.setCell]
  have HDA : Hid (((w.setCell ⟨s, 5, none⟩ (.int .i64 (σ.gt + 1))).alloc (.cells ds 28)).heap[w.heap.size]? = some (.cells ds 28 (0, 0))) := alloc_new _ _ hsz.symm
  have HLA := hid_of (laid_kept hL HKA.out (fun e => hs0 e.symm))
  clear hS1 hK1 hsz h hL
  go_enter Tryd.func15, Tryd.ntmps15
  go_wp2_with (refine wpList_load_row rfl 28 _ rfl w.heap.size rfl 28 ds (0, 0) _ HDA.out Tryd.underlying28 rfl hds ?_)
  generalize (w.setCell ⟨s, 5, none⟩ (.int .i64 (σ.gt + 1))).alloc (.cells ds 28) = wA at *
  refine (HHAS.out wA HSA.out).mono ?_
  rintro e w1 ⟨rfl, hk1⟩
  have HSB := hid_of (HSA.out.kept hk1 (fun _ _ f => f))
  have HKB := hid_of (HKA.out.trans (hk1.mono (T := fun k => k = s) (fun _ _ f => f.elim)))
  have HDB := hid_of ((hk1.block _ (heap_lt HDA.out) (fun f => f)).trans HDA.out)
  have HLB := hid_of (laid_kept HLA.out hk1 (fun f => f))
  clear hk1 HSA HKA HDA HLA HHAS
  go_wp2_with (refine wpList_load_row rfl 28 _ rfl w.heap.size rfl 28 ds (0, 0) _ HDB.out Tryd.underlying28 rfl hds ?_)
  refine (HWH.out w1 HSB.out HLB.out).mono ?_
  rintro e w2 ⟨rfl, hk2⟩
  have HSC := hid_of (HSB.out.kept hk2 (fun _ _ f => f))
  have HKC := hid_of (HKB.out.trans (hk2.mono (T := fun k => k = s) (fun _ _ f => f.elim)))
  have HDC := hid_of ((hk2.block _ (heap_lt HDB.out) (fun f => f)).trans HDB.out)
  clear hk2 HSB HKB HDB HLB HWH
  go_wp2
  have HS : Hid (∀ W, Kept (fun _ => False) w2 W → W.cell? ⟨s, 2, none⟩ = some mv ∧ W.heap[w.heap.size]? = some (.cells ds 28 (0, 0)) ∧ (Instr.lookup 59 mv (.agg ds) false).run Tryd.prog W = .ok (.agg #[.slice ao n c, .int .i64 st]) W) := fun W hW => by
    have hW7 := HSC.out.kept hW (fun _ _ f => f)
    exact ⟨hW7.cell 2, (hW.block _ (heap_lt HDC.out) (fun f => f)).trans HDC.out, HLK.out W hW7⟩
  refine wp_region_held_drew (S := fun w' => w'.cell? ⟨s, 2, none⟩ = some mv ∧ w'.heap[w.heap.size]? = some (.cells ds 28 (0, 0)) ∧ (Instr.lookup 59 mv (.agg ds) false).run Tryd.prog w' = .ok (.agg #[.slice ao n c, .int .i64 st]) w') (by kernel_rfl) (HS.out _ ((Kept.refl _ w2).drew)) (fun hHeld => ?_)
  refine wpAnyH_take (i := 0) (v := ?_) rfl (by kernel_rfl) (by kernel_rfl) (by kernel_rfl) (fun _ _ _ h => h) (Or.inl ⟨by rfl, ?_⟩) (by assumption) ?_
  rotate_left 1
  · intro w hSw
    obtain ⟨s1, s2, s3⟩ := hSw
    go_simp
    try with_reducible rfl
  try simp only [Act.put, List.getElem_toArray, List.getElem_cons_zero, List.getElem_cons_succ, List.setIfInBounds_toArray, List.set_cons_zero, List.set_cons_succ]
  refine wpAnyH_take (i := 1) (v := ?_) rfl (by kernel_rfl) (by kernel_rfl) (by kernel_rfl) (fun _ _ _ h => h) (Or.inl ⟨by rfl, ?_⟩) (by assumption) ?_
  rotate_left 1
  · intro w hSw
    obtain ⟨s1, s2, s3⟩ := hSw
    go_simp
    try with_reducible rfl
  try simp only [Act.put, List.getElem_toArray, List.getElem_cons_zero, List.getElem_cons_succ, List.setIfInBounds_toArray, List.set_cons_zero, List.set_cons_succ]
  refine wpAnyH_take (i := 2) (v := ?_) rfl (by kernel_rfl) (by kernel_rfl) (by kernel_rfl) (fun _ _ _ h => h) (Or.inl ⟨by rfl, ?_⟩) (by assumption) ?_
  rotate_left 1
  · intro w hSw
    obtain ⟨s1, s2, s3⟩ := hSw
    go_simp
    try with_reducible rfl
  try simp only [Act.put, List.getElem_toArray, List.getElem_cons_zero, List.getElem_cons_succ, List.setIfInBounds_toArray, List.set_cons_zero, List.set_cons_succ]
  refine wpAnyH_take (i := 3) (v := ?_) rfl (by kernel_rfl) (by kernel_rfl) (by kernel_rfl) (fun _ _ _ h => h) (Or.inl ⟨by rfl, ?_⟩) (by assumption) ?_
  rotate_left 1
  · intro w hSw
    obtain ⟨s1, s2, s3⟩ := hSw
    go_simp
    try with_reducible rfl
  try simp only [Act.put, List.getElem_toArray, List.getElem_cons_zero, List.getElem_cons_succ, List.setIfInBounds_toArray, List.set_cons_zero, List.set_cons_succ]
  refine wpAnyH_take (i := 4) (v := .agg ds) rfl (by kernel_rfl) (by kernel_rfl) (by kernel_rfl) (fun _ _ _ h => h) (yields_row (by rfl) 28 _ rfl w.heap.size rfl 28 ds (0, 0) _ (fun w hSw => hSw.2.1) Tryd.underlying28 rfl hds) (by assumption) ?_
  try simp only [Act.put, List.getElem_toArray, List.getElem_cons_zero, List.getElem_cons_succ, List.setIfInBounds_toArray, List.set_cons_zero, List.set_cons_succ]
  refine wpAnyH_take (i := 5) (v := ?_) rfl (by kernel_rfl) (by kernel_rfl) (by kernel_rfl) (fun _ _ _ h => h) (Or.inl ⟨by rfl, ?_⟩) (by assumption) ?_
  rotate_left 1
  · intro w hSw
    obtain ⟨s1, s2, s3⟩ := hSw
    go_simp
    try with_reducible rfl
  try simp only [Act.put, List.getElem_toArray, List.getElem_cons_zero, List.getElem_cons_succ, List.setIfInBounds_toArray, List.set_cons_zero, List.set_cons_succ]
  refine wpAnyH_take (i := 6) (v := ?_) rfl (by kernel_rfl) (by kernel_rfl) (by kernel_rfl) (fun _ _ _ h => h) (Or.inl ⟨by rfl, ?_⟩) (by assumption) ?_
  rotate_left 1
  · intro w hSw
    have hq := HQF.out w
    go_simp
    try with_reducible rfl
  try simp only [Act.put, List.getElem_toArray, List.getElem_cons_zero, List.getElem_cons_succ, List.setIfInBounds_toArray, List.set_cons_zero, List.set_cons_succ]
  refine wpAnyH_ready (rs := [7]) (by kernel_rfl) (by simp) ?_
  refine AllReadyH.cons rfl (fun K hK => ?_) AllReadyH.nil
  go_simp
  refine (HCL.out w2.drew (HSC.out.kept (Kept.refl (fun _ => False) w2).drew (fun _ _ f => f))).mono ?_
  rintro e w3 ⟨v, rfl, hv1, hv2, hk3⟩
  have hk3' : Kept (fun _ => False) w2 w3 := (Kept.refl _ w2).drew.trans hk3
  have HV1 := hid_of hv1
  have HV2 : Hid (∀ g, v.ownBlock = some g → w.heap.size ≤ g) := fun g hg => by have h7 := (hv2 g hg).1; have h8 := HKC.out.size; have h9 : w2.drew.heap.size = w2.heap.size := rfl; omega
  have HSD := hid_of (HSC.out.kept hk3' (fun _ _ f => f))
  have HKD := hid_of (HKC.out.trans (hk3'.mono (T := fun k => k = s) (fun _ _ f => f.elim)))
  have HSS := hid_of (HS.out _ hk3')
  clear hv1 hv2 hk3 hk3'
  refine hK.out _ _ HSS.out (fun hHeld => ?_)
  clear hK K
  try simp only [Act.put, List.getElem_toArray, List.getElem_cons_zero, List.getElem_cons_succ, List.setIfInBounds_toArray, List.set_cons_zero, List.set_cons_succ]
  refine wpAnyH_take (i := 8) (v := ?_) rfl (by kernel_rfl) (by kernel_rfl) (by kernel_rfl) (fun _ _ _ h => h) (Or.inl ⟨by rfl, ?_⟩) (by assumption) ?_
  rotate_left 1
  · intro w hSw
    go_simp
    try with_reducible rfl
  try simp only [Act.put, List.getElem_toArray, List.getElem_cons_zero, List.getElem_cons_succ, List.setIfInBounds_toArray, List.set_cons_zero, List.set_cons_succ]
  refine wpAnyH_take (i := 9) (v := ?_) rfl (by kernel_rfl) (by kernel_rfl) (by kernel_rfl) (fun _ _ _ h => h) (Or.inl ⟨by rfl, ?_⟩) (by assumption) ?_
  rotate_left 1
  · intro w hSw
    go_simp
    try with_reducible rfl
  try simp only [Act.put, List.getElem_toArray, List.getElem_cons_zero, List.getElem_cons_succ, List.setIfInBounds_toArray, List.set_cons_zero, List.set_cons_succ]
  refine wpAnyH_done (by kernel_rfl) ?_ _
  go_wp2
  exact bodyPost_ret (v := .tuple #[v, .int .i64 0]) (by simp [results, Tryd.results15, go_sem]) rfl ⟨v, rfl, HV1.out, HV2.out, HSD.out, HKD.out⟩
end Go.Proofs.YtjdbmjkidljhpaaDoor

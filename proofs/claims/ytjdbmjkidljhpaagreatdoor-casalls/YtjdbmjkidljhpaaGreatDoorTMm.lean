/-
 Mm: Craw, Cget, Cplant.
-/
import Derived.Test.YtjdbmjkidljhpaaGreatDoorTMl
namespace Go.Proofs.YtjdbmjkidljhpaaGreatDoor
open Go.RowKit
set_option linter.unusedVariables false
set_option linter.unusedSimpArgs false
set_option maxRecDepth 100000
set_option maxHeartbeats 4000000 in
theorem has_any {w : World} {s : Nat} {mv : Value} {σ : Sg} (h : Stor w s mv σ) (d : List Int) (hd : d.length = 32) :
  Calls Tryz.prog 43 #[.pointer (some ⟨s, 0, none⟩), dv d] w fun e w' => e = .returned (.bool (look σ.es d).isSome) ∧ Kept (fun _ => False) w w' := by
 obtain ⟨ao, n, c, st, hV⟩ := h.shape d
 have hds := size28_of d hd
 have HL2 : Hid (∀ W, Kept (fun _ => False) w W → (Instr.lookup 63 mv (.agg (d.map (Value.int .u8)).toArray) true).run Tryz.prog W = .ok (.tuple #[.agg #[.slice ao n c, .int .i64 st], .bool (look σ.es d).isSome]) W) := fun W hW => by
  have := h.lookw d hd true W hW
  rw [hV] at this
  exact this
 have HM : Hid (w.cell? ⟨s, 2, none⟩ = some mv) := h.cell 2
 clear h hV
 unfold dv
 generalize (look σ.es d).isSome = tt at *
 generalize (d.map (Value.int .u8)).toArray = ds at *
 have HS : Hid (∀ W, Kept (fun _ => False) (w.alloc (.cells ds 29)) W → W.cell? ⟨s, 2, none⟩ = some mv ∧ W.heap[w.heap.size]? = some (.cells ds 29 (0, 0)) ∧ (Instr.lookup 63 mv (.agg ds) true).run Tryz.prog W = .ok (.tuple #[.agg #[.slice ao n c, .int .i64 st], .bool tt]) W) := fun W hW =>
  ⟨hW.cell ((Kept.refl (fun _ => False) w).alloc _ |>.cell HM.out (fun f => f)) (fun f => f), (hW.block _ (by simp) (fun f => f)).trans (alloc_new _ _ rfl), HL2.out W (((Kept.refl (fun _ => False) w).alloc _).trans hW)⟩
 have HKA : Hid (Kept (fun _ => False) w (w.alloc (.cells ds 29))) := (Kept.refl _ w).alloc _
 go_enter Tryz.func43, Tryz.ntmps43
 go_wp2
 generalize w.alloc (.cells ds 29) = wA at *
 refine wp_region_held_drew (S := fun w' => w'.cell? ⟨s, 2, none⟩ = some mv ∧ w'.heap[w.heap.size]? = some (.cells ds 29 (0, 0)) ∧ (Instr.lookup 63 mv (.agg ds) true).run Tryz.prog w' = .ok (.tuple #[.agg #[.slice ao n c, .int .i64 st], .bool tt]) w') (by kernel_rfl) (HS.out _ ((Kept.refl _ wA).drew)) (fun hHeld => ?_)
 iterate 4
  refine tkn (v := ?_) 0 rfl ?_ ?_; rotate_left 1
  ·intro w hSw; obtain ⟨s1, s2, s3⟩ := hSw; go_simp; try with_reducible rfl
  try simp only [Act.put, tdy]
 refine tkg 4 (.agg ds) rfl (yields_row (by rfl) 29 _ rfl w.heap.size rfl 29 ds (0, 0) _ (fun w hSw => hSw.2.1) Tryz.underlying29 rfl hds) ?_
 try simp only [Act.put, tdy]
 iterate 4
  refine tkn (v := ?_) 5 rfl ?_ ?_; rotate_left 1
  ·intro w hSw; obtain ⟨s1, s2, s3⟩ := hSw; go_simp; try with_reducible rfl
  try simp only [Act.put, tdy]
 refine wpAnyH_ready (rs := [9]) (by kernel_rfl) (by simp) ?_
 refine AllReadyH.cons rfl (fun K hK => ?_) .nil
 go_simp
 refine hK.out _ _ (HS.out _ (((Kept.refl _ wA).alloc _).drew)) (fun hHeld => ?_)
 clear hK K
 try simp only [Act.put, tdy]
 refine wpAnyH_ready (rs := [10]) (by kernel_rfl) (by simp) ?_
 refine AllReadyH.cons rfl (fun K hK => ?_) .nil
 go_simp
 refine hK.out _ _ (HS.out _ (((Kept.refl _ wA).alloc _).drew)) (fun hHeld => ?_)
 clear hK K
 try simp only [Act.put, tdy]
 refine tkp (v := ?_) 11 rfl ?_ ?_; rotate_left 1
 ·intro w hSw; obtain ⟨s1, s2, s3⟩ := hSw; go_simp; try with_reducible rfl
 try simp only [Act.put, tdy]
 refine wpAnyH_done (by kernel_rfl) ?_ _
 go_wp2
 go_ret
 exact ⟨rfl, (HKA.out.alloc _).drew⟩
/-- The bytes that lie under a digest. -/
def rawX (es : List En) (d : List Int) : List Int := match look es d with | some e => e.xs | none => []
theorem Stor.rawb {w : World} {s : Nat} {mv : Value} {σ : Sg} (h : Stor w s mv σ) (d : List Int) {ao : Option Addr} {n c : Nat} {st : Int} (hV : lookV σ.es d = .agg #[.slice ao n c, .int .i64 st]) : BIn w (.slice ao n c) (rawX σ.es d) ∧ (rawX σ.es d).length ≤ 1048576 ∧ ∀ x ∈ rawX σ.es d, 0 ≤ x ∧ x < 256 := by
 unfold lookV at hV
 unfold rawX
 cases hl : look σ.es d with
 | none =>
  rw [hl] at hV
  unfold noLaid at hV
  injection hV with hV
  have := congrArg (fun a => a[0]?) hV
  simp at this
  obtain ⟨rfl, rfl, rfl⟩ := this
  exact ⟨⟨none, 0, rfl, Nat.le_refl _, .inl rfl⟩, Nat.zero_le _, fun x hx => (by cases hx)⟩
 | some e =>
  rw [hl] at hV
  have hV2 : Value.agg #[e.bv, .int .i64 e.st] = .agg #[.slice ao n c, .int .i64 st] := hV
  injection hV2 with hV2
  have h7 := congrArg (fun a => a[0]?) hV2
  have h8 : e.bv = .slice ao n c := by simpa using h7
  have hb := h.blob e (look_mem _ _ _ hl).1
  rw [h8] at hb
  exact ⟨hb.1, hb.2.2.1, hb.2.1⟩
set_option maxHeartbeats 4000000 in
theorem raw_any {w : World} {s : Nat} {mv : Value} {σ : Sg} (h : Stor w s mv σ) (d : List Int) (hd : d.length = 32) :
  Calls Tryz.prog 41 #[.pointer (some ⟨s, 0, none⟩), dv d] w fun e w' => ∃ v, e = .returned (.tuple #[v, .bool (look σ.es d).isSome]) ∧ BIn w' v (rawX σ.es d) ∧ (∀ g, v.ownBlock = some g → w.heap.size ≤ g) ∧ Kept (fun _ => False) w w' := by
 obtain ⟨ao, n, c, st, hV⟩ := h.shape d
 have hds := size28_of d hd
 have HL2 : Hid (∀ W, Kept (fun _ => False) w W → (Instr.lookup 63 mv (.agg (d.map (Value.int .u8)).toArray) true).run Tryz.prog W = .ok (.tuple #[.agg #[.slice ao n c, .int .i64 st], .bool (look σ.es d).isSome]) W) := fun W hW => by
  have := h.lookw d hd true W hW
  rw [hV] at this
  exact this
 have HM : Hid (w.cell? ⟨s, 2, none⟩ = some mv) := h.cell 2
 obtain ⟨hb1, hb2, hb3⟩ := h.rawb d hV
 have HCL : Hid (∀ W, Kept (fun _ => False) w W → Calls Tryz.prog 30 #[.slice ao n c] W fun e w' => ∃ v', e = .returned v' ∧ BIn w' v' (rawX σ.es d) ∧ (∀ g, v'.ownBlock = some g → W.heap.size ≤ g ∧ g < w'.heap.size) ∧ Kept (fun _ => False) W w') := fun W hW => clone_any _ _ W (hb1.kept2 hW (fun _ _ _ f => f)) (by omega)
 generalize rawX σ.es d = xs at *
 clear h hV hb1 hb2 hb3
 unfold dv
 generalize (look σ.es d).isSome = tt at *
 generalize (d.map (Value.int .u8)).toArray = ds at *
 have HS : Hid (∀ W, Kept (fun _ => False) (w.alloc (.cells ds 29)) W → W.cell? ⟨s, 2, none⟩ = some mv ∧ W.heap[w.heap.size]? = some (.cells ds 29 (0, 0)) ∧ (Instr.lookup 63 mv (.agg ds) true).run Tryz.prog W = .ok (.tuple #[.agg #[.slice ao n c, .int .i64 st], .bool tt]) W) := fun W hW =>
  ⟨hW.cell ((Kept.refl (fun _ => False) w).alloc _ |>.cell HM.out (fun f => f)) (fun f => f), (hW.block _ (by simp) (fun f => f)).trans (alloc_new _ _ rfl), HL2.out W (((Kept.refl (fun _ => False) w).alloc _).trans hW)⟩
 have HKA : Hid (Kept (fun _ => False) w (w.alloc (.cells ds 29))) := (Kept.refl _ w).alloc _
 go_enter Tryz.func41, Tryz.ntmps41
 go_wp2
 generalize w.alloc (.cells ds 29) = wA at *
 refine wp_region_held_drew (S := fun w' => w'.cell? ⟨s, 2, none⟩ = some mv ∧ w'.heap[w.heap.size]? = some (.cells ds 29 (0, 0)) ∧ (Instr.lookup 63 mv (.agg ds) true).run Tryz.prog w' = .ok (.tuple #[.agg #[.slice ao n c, .int .i64 st], .bool tt]) w') (by kernel_rfl) (HS.out _ ((Kept.refl _ wA).drew)) (fun hHeld => ?_)
 iterate 4
  refine tkn (v := ?_) 0 rfl ?_ ?_; rotate_left 1
  ·intro w hSw; obtain ⟨s1, s2, s3⟩ := hSw; go_simp; try with_reducible rfl
  try simp only [Act.put, tdy]
 refine tkg 4 (.agg ds) rfl (yields_row (by rfl) 29 _ rfl w.heap.size rfl 29 ds (0, 0) _ (fun w hSw => hSw.2.1) Tryz.underlying29 rfl hds) ?_
 try simp only [Act.put, tdy]
 iterate 4
  refine tkn (v := ?_) 5 rfl ?_ ?_; rotate_left 1
  ·intro w hSw; obtain ⟨s1, s2, s3⟩ := hSw; go_simp; try with_reducible rfl
  try simp only [Act.put, tdy]
 refine wpAnyH_ready (rs := [9]) (by kernel_rfl) (by simp) ?_
 refine AllReadyH.cons rfl (fun K hK => ?_) .nil
 go_simp
 refine hK.out _ _ (HS.out _ (((Kept.refl _ wA).alloc _).drew)) (fun hHeld => ?_)
 clear hK K
 try simp only [Act.put, tdy]
 refine wpAnyH_ready (rs := [10]) (by kernel_rfl) (by simp) ?_
 refine AllReadyH.cons rfl (fun K hK => ?_) .nil
 go_simp
 refine hK.out _ _ (HS.out _ (((Kept.refl _ wA).alloc _).drew)) (fun hHeld => ?_)
 clear hK K
 try simp only [Act.put, tdy]
 refine tkp (v := ?_) 11 rfl ?_ ?_; rotate_left 1
 ·intro w hSw; obtain ⟨s1, s2, s3⟩ := hSw; go_simp; try with_reducible rfl
 try simp only [Act.put, tdy]
 refine wpAnyH_done (by kernel_rfl) ?_ _
 have c5 : (wA.alloc (.cells #[.slice ao n c, .int .i64 st] 87)).drew.cell? ⟨wA.heap.size, 0, none⟩ = some (.slice ao n c) := (cell_block _ _ _ _ _ _ (alloc_new wA _ rfl)).trans rfl
 have HKB : Hid (Kept (fun _ => False) w (wA.alloc (.cells #[.slice ao n c, .int .i64 st] 87)).drew) := (HKA.out.alloc _).drew
 generalize wA.heap.size = b5 at *
 generalize (wA.alloc (.cells #[.slice ao n c, .int .i64 st] 87)).drew = wB at *
 go_wp2_with fail
 refine (HCL.out wB HKB.out).mono ?_
 rintro e w2 ⟨v, rfl, hv1, hv2, hk2⟩
 have HV1 := hid_of hv1
 have HV2 : Hid (∀ g, v.ownBlock = some g → w.heap.size ≤ g) := fun g hg => Nat.le_trans HKB.out.size (hv2 g hg).1
 have HK2 := hid_of (HKB.out.trans hk2)
 clear hv1 hv2 hk2
 go_wp2
 exact bodyPost_ret (v := .tuple #[v, .bool tt]) (by simp [results, Tryz.results41, go_sem]) rfl ⟨v, rfl, HV1.out, HV2.out, HK2.out⟩
end Go.Proofs.YtjdbmjkidljhpaaGreatDoor
namespace Go.Proofs.YtjdbmjkidljhpaaGreatDoor
open Go.RowKit
set_option linter.unusedVariables false
set_option linter.unusedSimpArgs false
set_option maxRecDepth 100000
theorem field0 (W : World) (a b : Value) : (Instr.field 87 (.agg #[a, b]) 0).run Tryz.prog W = .ok a W := by kernel_rfl
/-- A Get is counted. -/
def Sg.get1 (σ : Sg) : Sg := { σ with gt := σ.gt + 1 }
set_option maxHeartbeats 4000000 in
theorem get_missing {w : World} {s : Nat} {mv : Value} {σ : Sg} (h : Stor w s mv σ) (hL : Laid w) (hs0 : s ≠ 0) (k : Nat) (hk : σ.wd = k) (h1 : 1 ≤ k) (h2 : k ≤ 32) (d : List Int) (hd : d.length = 32) (hgt : 0 ≤ σ.gt) (hgt2 : σ.gt ≤ 1099511627776) (he : look σ.es d = none) :
  Calls Tryz.prog 27 #[.pointer (some ⟨s, 0, none⟩), dv d] w fun e w' => e = .returned (.tuple #[.slice none 0 0, .int .i64 41]) ∧ Stor w' s mv σ.get1 ∧ Kept (fun k => k = s) w w' := by
 have hds := size28_of d hd
 have HHAS : Hid (∀ W, Stor W s mv σ.get1 → Calls Tryz.prog 43 #[.pointer (some ⟨s, 0, none⟩), .agg (d.map (Value.int .u8)).toArray] W fun e w' => e = .returned (.bool (look σ.es d).isSome) ∧ Kept (fun _ => False) W w') := fun W hW => has_any hW d hd
 have HWH : Hid (∀ W, Stor W s mv σ.get1 → Laid W → Calls Tryz.prog 44 #[.pointer (some ⟨s, 0, none⟩), .agg (d.map (Value.int .u8)).toArray] W fun e w' => e = .returned (.bool (wholeB k σ.es d)) ∧ Kept (fun _ => False) W w') := fun W hW hLW => whole_any hW hLW k hk h1 h2 d hd
 rw [he] at HHAS
 clear he
 have c5 : w.cell? ⟨s, 5, none⟩ = some (.int .i64 σ.gt) := h.cell 5
 have f5 := h.fz 5
 have hsl := h.lt
 have hwp : IntKind.i64.wrap (σ.gt + 1) = σ.gt + 1 := by rw [IntKind.wrap_i64]; omega
 obtain ⟨hS1, hK1⟩ := h.set (σ' := σ.get1) 5 (.int .i64 (σ.gt + 1)) rfl rfl
 unfold dv
 generalize (d.map (Value.int .u8)).toArray = ds at *
 have HSA : Hid (Stor ((w.setCell ⟨s, 5, none⟩ (.int .i64 (σ.gt + 1))).alloc (.cells ds 29)) s mv σ.get1) := hS1.kept ((Kept.refl (fun _ => False) _).alloc _) (fun _ _ f => f)
 have HKA : Hid (Kept (fun k => k = s) w ((w.setCell ⟨s, 5, none⟩ (.int .i64 (σ.gt + 1))).alloc (.cells ds 29))) := hK1.alloc _
 have hsz : (w.setCell ⟨s, 5, none⟩ (.int .i64 (σ.gt + 1))).heap.size = w.heap.size := by simp [World.setCell]
 have HDA : Hid (((w.setCell ⟨s, 5, none⟩ (.int .i64 (σ.gt + 1))).alloc (.cells ds 29)).heap[w.heap.size]? = some (.cells ds 29 (0, 0))) := alloc_new _ _ hsz.symm
 have HLA := hid_of (laid_kept hL HKA.out (fun e => hs0 e.symm))
 clear hS1 hK1 hsz h hL
 go_enter Tryz.func27, Tryz.ntmps27
 go_wp2_with (refine wpList_load_row rfl 29 _ rfl w.heap.size rfl 29 ds (0, 0) _ HDA.out Tryz.underlying29 rfl hds ?_)
 generalize (w.setCell ⟨s, 5, none⟩ (.int .i64 (σ.gt + 1))).alloc (.cells ds 29) = wA at *
 refine (HHAS.out wA HSA.out).mono ?_
 rintro e w1 ⟨rfl, hk1⟩
 have HSB := hid_of (HSA.out.kept hk1 (fun _ _ f => f))
 have HKB := hid_of (HKA.out.trans (hk1.mono (T := fun k => k = s) (fun _ _ f => f.elim)))
 have HDB := hid_of ((hk1.block _ (heap_lt HDA.out) (fun f => f)).trans HDA.out)
 have HLB := hid_of (laid_kept HLA.out hk1 (fun f => f))
 clear hk1 HSA HKA HDA HLA HHAS
 go_wp2
 exact bodyPost_ret (v := .tuple #[.slice none 0 0, .int .i64 41]) (by simp [results, Tryz.results27, go_sem]) rfl ⟨rfl, HSB.out, HKB.out⟩
set_option maxHeartbeats 4000000 in
theorem get_corrupt {w : World} {s : Nat} {mv : Value} {σ : Sg} (h : Stor w s mv σ) (hL : Laid w) (hs0 : s ≠ 0) (k : Nat) (hk : σ.wd = k) (h1 : 1 ≤ k) (h2 : k ≤ 32) (d : List Int) (hd : d.length = 32) (hgt : 0 ≤ σ.gt) (hgt2 : σ.gt ≤ 1099511627776) (he : (look σ.es d).isSome = true) (hwh : wholeB k σ.es d = false) :
  Calls Tryz.prog 27 #[.pointer (some ⟨s, 0, none⟩), dv d] w fun e w' => e = .returned (.tuple #[.slice none 0 0, .int .i64 42]) ∧ Stor w' s mv σ.get1 ∧ Kept (fun k => k = s) w w' := by
 have hds := size28_of d hd
 have HHAS : Hid (∀ W, Stor W s mv σ.get1 → Calls Tryz.prog 43 #[.pointer (some ⟨s, 0, none⟩), .agg (d.map (Value.int .u8)).toArray] W fun e w' => e = .returned (.bool (look σ.es d).isSome) ∧ Kept (fun _ => False) W w') := fun W hW => has_any hW d hd
 have HWH : Hid (∀ W, Stor W s mv σ.get1 → Laid W → Calls Tryz.prog 44 #[.pointer (some ⟨s, 0, none⟩), .agg (d.map (Value.int .u8)).toArray] W fun e w' => e = .returned (.bool (wholeB k σ.es d)) ∧ Kept (fun _ => False) W w') := fun W hW hLW => whole_any hW hLW k hk h1 h2 d hd
 rw [he] at HHAS
 rw [hwh] at HWH
 clear he hwh
 have c5 : w.cell? ⟨s, 5, none⟩ = some (.int .i64 σ.gt) := h.cell 5
 have f5 := h.fz 5
 have hsl := h.lt
 have hwp : IntKind.i64.wrap (σ.gt + 1) = σ.gt + 1 := by rw [IntKind.wrap_i64]; omega
 obtain ⟨hS1, hK1⟩ := h.set (σ' := σ.get1) 5 (.int .i64 (σ.gt + 1)) rfl rfl
 unfold dv
 generalize (d.map (Value.int .u8)).toArray = ds at *
 have HSA : Hid (Stor ((w.setCell ⟨s, 5, none⟩ (.int .i64 (σ.gt + 1))).alloc (.cells ds 29)) s mv σ.get1) := hS1.kept ((Kept.refl (fun _ => False) _).alloc _) (fun _ _ f => f)
 have HKA : Hid (Kept (fun k => k = s) w ((w.setCell ⟨s, 5, none⟩ (.int .i64 (σ.gt + 1))).alloc (.cells ds 29))) := hK1.alloc _
 have hsz : (w.setCell ⟨s, 5, none⟩ (.int .i64 (σ.gt + 1))).heap.size = w.heap.size := by simp [World.setCell]
 have HDA : Hid (((w.setCell ⟨s, 5, none⟩ (.int .i64 (σ.gt + 1))).alloc (.cells ds 29)).heap[w.heap.size]? = some (.cells ds 29 (0, 0))) := alloc_new _ _ hsz.symm
 have HLA := hid_of (laid_kept hL HKA.out (fun e => hs0 e.symm))
 clear hS1 hK1 hsz h hL
 go_enter Tryz.func27, Tryz.ntmps27
 go_wp2_with (refine wpList_load_row rfl 29 _ rfl w.heap.size rfl 29 ds (0, 0) _ HDA.out Tryz.underlying29 rfl hds ?_)
 generalize (w.setCell ⟨s, 5, none⟩ (.int .i64 (σ.gt + 1))).alloc (.cells ds 29) = wA at *
 refine (HHAS.out wA HSA.out).mono ?_
 rintro e w1 ⟨rfl, hk1⟩
 have HSB := hid_of (HSA.out.kept hk1 (fun _ _ f => f))
 have HKB := hid_of (HKA.out.trans (hk1.mono (T := fun k => k = s) (fun _ _ f => f.elim)))
 have HDB := hid_of ((hk1.block _ (heap_lt HDA.out) (fun f => f)).trans HDA.out)
 have HLB := hid_of (laid_kept HLA.out hk1 (fun f => f))
 clear hk1 HSA HKA HDA HLA HHAS
 go_wp2_with (refine wpList_load_row rfl 29 _ rfl w.heap.size rfl 29 ds (0, 0) _ HDB.out Tryz.underlying29 rfl hds ?_)
 refine (HWH.out w1 HSB.out HLB.out).mono ?_
 rintro e w2 ⟨rfl, hk2⟩
 have HSC := hid_of (HSB.out.kept hk2 (fun _ _ f => f))
 have HKC := hid_of (HKB.out.trans (hk2.mono (T := fun k => k = s) (fun _ _ f => f.elim)))
 have HDC := hid_of ((hk2.block _ (heap_lt HDB.out) (fun f => f)).trans HDB.out)
 clear hk2 HSB HKB HDB HLB HWH
 go_wp2
 exact bodyPost_ret (v := .tuple #[.slice none 0 0, .int .i64 42]) (by simp [results, Tryz.results27, go_sem]) rfl ⟨rfl, HSC.out, HKC.out⟩
set_option maxHeartbeats 4000000 in
theorem get_ok {w : World} {s : Nat} {mv : Value} {σ : Sg} (h : Stor w s mv σ) (hL : Laid w) (hs0 : s ≠ 0) (k : Nat) (hk : σ.wd = k) (h1 : 1 ≤ k) (h2 : k ≤ 32) (d : List Int) (hd : d.length = 32) (hgt : 0 ≤ σ.gt) (hgt2 : σ.gt ≤ 1099511627776) (hwh : wholeB k σ.es d = true) :
  Calls Tryz.prog 27 #[.pointer (some ⟨s, 0, none⟩), dv d] w fun e w' => ∃ v, e = .returned (.tuple #[v, .int .i64 0]) ∧ BIn w' v (rawX σ.es d) ∧ (∀ g, v.ownBlock = some g → w.heap.size ≤ g) ∧ Stor w' s mv σ.get1 ∧ Kept (fun k => k = s) w w' := by
 have he : (look σ.es d).isSome = true := by
  unfold wholeB at hwh
  cases hl : look σ.es d with
  | none => rw [hl] at hwh; cases hwh
  | some e => rfl
 obtain ⟨ao, n, c, st, hV⟩ := h.shape d
 have HLK : Hid (∀ W, Stor W s mv σ.get1 → (Instr.lookup 63 mv (.agg (d.map (Value.int .u8)).toArray) false).run Tryz.prog W = .ok (.agg #[.slice ao n c, .int .i64 st]) W) := fun W hW => by
  have h7 := hW.found d hd false
  have h8 : σ.get1.es = σ.es := rfl
  rw [h8, hV] at h7
  exact h7
 have HCL : Hid (∀ W, Stor W s mv σ.get1 → Calls Tryz.prog 30 #[.slice ao n c] W fun e w' => ∃ v', e = .returned v' ∧ BIn w' v' (rawX σ.es d) ∧ (∀ g, v'.ownBlock = some g → W.heap.size ≤ g ∧ g < w'.heap.size) ∧ Kept (fun _ => False) W w') := fun W hW => by
  obtain ⟨hb1, hb2, hb3⟩ := hW.rawb d (show lookV σ.get1.es d = _ from hV)
  exact clone_any _ _ W hb1 (by have h9 : (rawX σ.es d).length ≤ 1048576 := hb2; omega)
 have hds := size28_of d hd
 have HHAS : Hid (∀ W, Stor W s mv σ.get1 → Calls Tryz.prog 43 #[.pointer (some ⟨s, 0, none⟩), .agg (d.map (Value.int .u8)).toArray] W fun e w' => e = .returned (.bool (look σ.es d).isSome) ∧ Kept (fun _ => False) W w') := fun W hW => has_any hW d hd
 have HWH : Hid (∀ W, Stor W s mv σ.get1 → Laid W → Calls Tryz.prog 44 #[.pointer (some ⟨s, 0, none⟩), .agg (d.map (Value.int .u8)).toArray] W fun e w' => e = .returned (.bool (wholeB k σ.es d)) ∧ Kept (fun _ => False) W w') := fun W hW hLW => whole_any hW hLW k hk h1 h2 d hd
 rw [he] at HHAS
 rw [hwh] at HWH
 have HQF : Hid (∀ W : World, (Instr.field 87 (.agg #[.slice ao n c, .int .i64 st]) 0).run Tryz.prog W = .ok (.slice ao n c) W) := fun W => field0 W _ _
 clear he hwh hV
 generalize rawX σ.es d = xs at *
 have c5 : w.cell? ⟨s, 5, none⟩ = some (.int .i64 σ.gt) := h.cell 5
 have f5 := h.fz 5
 have hsl := h.lt
 have hwp : IntKind.i64.wrap (σ.gt + 1) = σ.gt + 1 := by rw [IntKind.wrap_i64]; omega
 obtain ⟨hS1, hK1⟩ := h.set (σ' := σ.get1) 5 (.int .i64 (σ.gt + 1)) rfl rfl
 unfold dv
 generalize (d.map (Value.int .u8)).toArray = ds at *
 have HSA : Hid (Stor ((w.setCell ⟨s, 5, none⟩ (.int .i64 (σ.gt + 1))).alloc (.cells ds 29)) s mv σ.get1) := hS1.kept ((Kept.refl (fun _ => False) _).alloc _) (fun _ _ f => f)
 have HKA : Hid (Kept (fun k => k = s) w ((w.setCell ⟨s, 5, none⟩ (.int .i64 (σ.gt + 1))).alloc (.cells ds 29))) := hK1.alloc _
 have hsz : (w.setCell ⟨s, 5, none⟩ (.int .i64 (σ.gt + 1))).heap.size = w.heap.size := by simp [World.setCell]
 have HDA : Hid (((w.setCell ⟨s, 5, none⟩ (.int .i64 (σ.gt + 1))).alloc (.cells ds 29)).heap[w.heap.size]? = some (.cells ds 29 (0, 0))) := alloc_new _ _ hsz.symm
 have HLA := hid_of (laid_kept hL HKA.out (fun e => hs0 e.symm))
 clear hS1 hK1 hsz h hL
 go_enter Tryz.func27, Tryz.ntmps27
 go_wp2_with (refine wpList_load_row rfl 29 _ rfl w.heap.size rfl 29 ds (0, 0) _ HDA.out Tryz.underlying29 rfl hds ?_)
 generalize (w.setCell ⟨s, 5, none⟩ (.int .i64 (σ.gt + 1))).alloc (.cells ds 29) = wA at *
 refine (HHAS.out wA HSA.out).mono ?_
 rintro e w1 ⟨rfl, hk1⟩
 have HSB := hid_of (HSA.out.kept hk1 (fun _ _ f => f))
 have HKB := hid_of (HKA.out.trans (hk1.mono (T := fun k => k = s) (fun _ _ f => f.elim)))
 have HDB := hid_of ((hk1.block _ (heap_lt HDA.out) (fun f => f)).trans HDA.out)
 have HLB := hid_of (laid_kept HLA.out hk1 (fun f => f))
 clear hk1 HSA HKA HDA HLA HHAS
 go_wp2_with (refine wpList_load_row rfl 29 _ rfl w.heap.size rfl 29 ds (0, 0) _ HDB.out Tryz.underlying29 rfl hds ?_)
 refine (HWH.out w1 HSB.out HLB.out).mono ?_
 rintro e w2 ⟨rfl, hk2⟩
 have HSC := hid_of (HSB.out.kept hk2 (fun _ _ f => f))
 have HKC := hid_of (HKB.out.trans (hk2.mono (T := fun k => k = s) (fun _ _ f => f.elim)))
 have HDC := hid_of ((hk2.block _ (heap_lt HDB.out) (fun f => f)).trans HDB.out)
 clear hk2 HSB HKB HDB HLB HWH
 go_wp2
 have HS : Hid (∀ W, Kept (fun _ => False) w2 W → W.cell? ⟨s, 2, none⟩ = some mv ∧ W.heap[w.heap.size]? = some (.cells ds 29 (0, 0)) ∧ (Instr.lookup 63 mv (.agg ds) false).run Tryz.prog W = .ok (.agg #[.slice ao n c, .int .i64 st]) W) := fun W hW => by
  have hW7 := HSC.out.kept hW (fun _ _ f => f)
  exact ⟨hW7.cell 2, (hW.block _ (heap_lt HDC.out) (fun f => f)).trans HDC.out, HLK.out W hW7⟩
 refine wp_region_held_drew (S := fun w' => w'.cell? ⟨s, 2, none⟩ = some mv ∧ w'.heap[w.heap.size]? = some (.cells ds 29 (0, 0)) ∧ (Instr.lookup 63 mv (.agg ds) false).run Tryz.prog w' = .ok (.agg #[.slice ao n c, .int .i64 st]) w') (by kernel_rfl) (HS.out _ ((Kept.refl _ w2).drew)) (fun hHeld => ?_)
 iterate 4
  refine tkn (v := ?_) 0 rfl ?_ ?_; rotate_left 1
  ·intro w hSw; obtain ⟨s1, s2, s3⟩ := hSw; go_simp; try with_reducible rfl
  try simp only [Act.put, tdy]
 refine tkg 4 (.agg ds) rfl (yields_row (by rfl) 29 _ rfl w.heap.size rfl 29 ds (0, 0) _ (fun w hSw => hSw.2.1) Tryz.underlying29 rfl hds) ?_
 try simp only [Act.put, tdy]
 refine tkp (v := ?_) 5 rfl ?_ ?_; rotate_left 1
 ·intro w hSw; obtain ⟨s1, s2, s3⟩ := hSw; go_simp; try with_reducible rfl
 try simp only [Act.put, tdy]
 refine tkp (v := ?_) 6 rfl ?_ ?_; rotate_left 1
 ·intro w hSw; have hq := HQF.out w; go_simp; try with_reducible rfl
 try simp only [Act.put, tdy]
 refine wpAnyH_ready (rs := [7]) (by kernel_rfl) (by simp) ?_
 refine AllReadyH.cons rfl (fun K hK => ?_) .nil
 go_simp
 refine (HCL.out w2.drew (HSC.out.kept (Kept.refl (fun _ => False) w2).drew (fun _ _ f => f))).mono ?_
 rintro e w3 ⟨v, rfl, hv1, hv2, hk3⟩
 have hk3' : Kept (fun _ => False) w2 w3 := (Kept.refl _ w2).drew.trans hk3
 have HV1 := hid_of hv1
 have HV2 : Hid (∀ g, v.ownBlock = some g → w.heap.size ≤ g) := fun g hg => by have h7 := (hv2 g hg).1; have h8 := HKC.out.size; have h9 : w2.drew.heap.size = w2.heap.size := rfl; omega
 have HSD := hid_of (HSC.out.kept hk3' (fun _ _ f => f))
 have HKD := hid_of (HKC.out.trans (hk3'.mono (T := fun k => k = s) (fun _ _ f => f.elim)))
 have HSS := hid_of (HS.out _ hk3')
 clear hv1 hv2 hk3 hk3'
 refine hK.out _ _ HSS.out (fun hHeld => ?_)
 clear hK K
 try simp only [Act.put, tdy]
 iterate 2
  refine tkn (v := ?_) 8 rfl ?_ ?_; rotate_left 1
  ·intro w hSw; go_simp; try with_reducible rfl
  try simp only [Act.put, tdy]
 refine wpAnyH_done (by kernel_rfl) ?_ _
 go_wp2
 exact bodyPost_ret (v := .tuple #[v, .int .i64 0]) (by simp [results, Tryz.results27, go_sem]) rfl ⟨v, rfl, HV1.out, HV2.out, HSD.out, HKD.out⟩
end Go.Proofs.YtjdbmjkidljhpaaGreatDoor
namespace Go.Proofs.YtjdbmjkidljhpaaGreatDoor
open Go.RowKit
set_option linter.unusedVariables false
set_option linter.unusedSimpArgs false
set_option maxRecDepth 100000
set_option maxHeartbeats 4000000 in
theorem plant_long {w : World} {s : Nat} {mv : Value} {σ : Sg} (h : Stor w s mv σ) (d : List Int) (hd : d.length = 32) (bv : Value) (xs : List Int) (hx : BIn w bv xs) (hn : xs.length ≤ 140737488355328) (hfit : fitsL d σ.wd = true) (hlong : 1048576 < xs.length) :
  Calls Tryz.prog 35 #[.pointer (some ⟨s, 0, none⟩), dv d, bv] w fun e w' => e = .returned (.int .i64 2) ∧ Kept (fun _ => False) w w' := by
 obtain ⟨bo, bc, hbv, _, _⟩ := id hx
 subst hbv
 have hds := size28_of d hd
 have HFI := hid_of (fun W => fits_any d σ.wd hd W)
 rw [hfit] at HFI
 have HW0 : Hid (w.cell? ⟨s, 0, none⟩ = some (.int .i64 σ.wd)) := h.cell 0
 clear h hx
 unfold dv
 clear hfit
 generalize (d.map (Value.int .u8)).toArray = ds at *
 have HKA : Hid (Kept (fun _ => False) w (w.alloc (.cells ds 29))) := (Kept.refl _ w).alloc _
 have HDA : Hid ((w.alloc (.cells ds 29)).heap[w.heap.size]? = some (.cells ds 29 (0, 0))) := alloc_new _ _ rfl
 go_enter Tryz.func35, Tryz.ntmps35
 go_wp2
 generalize w.alloc (.cells ds 29) = wA at *
 have cA := HKA.out.cell HW0.out (fun f => f)
 refine wp_region_held_drew (S := fun w' => w'.cell? ⟨s, 0, none⟩ = some (.int .i64 σ.wd) ∧ w'.heap[w.heap.size]? = some (.cells ds 29 (0, 0))) (by kernel_rfl) ⟨cA, HDA.out⟩ (fun hHeld => ?_)
 refine tkg 0 (.agg ds) rfl (yields_row (by rfl) 29 _ rfl w.heap.size rfl 29 ds (0, 0) _ (fun w hSw => hSw.2) Tryz.underlying29 rfl hds) ?_
 try simp only [Act.put, tdy]
 iterate 4
  refine tkn (v := ?_) 1 rfl ?_ ?_; rotate_left 1
  ·intro w hSw; obtain ⟨s1, s2⟩ := hSw; go_simp; try with_reducible rfl
  try simp only [Act.put, tdy]
 refine wpAnyH_ready (rs := [5]) (by kernel_rfl) (by simp) ?_
 refine AllReadyH.cons rfl (fun K hK => ?_) .nil
 go_simp
 refine (HFI.out _).mono ?_
 rintro e w1 ⟨rfl, hk1⟩
 have hk1' : Kept (fun _ => False) wA w1 := (Kept.refl _ wA).drew.trans hk1
 have HKB := hid_of (HKA.out.trans hk1')
 have HDB := hid_of ((hk1'.block _ (heap_lt HDA.out) (fun f => f)).trans HDA.out)
 have cB := hk1'.cell cA (fun f => f)
 clear hk1 hk1'
 refine hK.out _ _ ⟨cB, HDB.out⟩ (fun hHeld => ?_)
 clear hK K
 try simp only [Act.put, tdy]
 refine tkp (v := ?_) 6 rfl ?_ ?_; rotate_left 1
 ·intro w hSw; go_simp; try with_reducible rfl
 try simp only [Act.put, tdy]
 refine wpAnyH_done (by kernel_rfl) ?_ _
 go_wp2
 go_ret
 exact ⟨rfl, HKB.out⟩
set_option maxHeartbeats 4000000 in
theorem plant_ok {w : World} {s : Nat} {mv : Value} {σ : Sg} (h : Stor w s mv σ) (d : List Int) (hd : d.length = 32) (bv : Value) (xs : List Int) (hx : BIn w bv xs) (hn : xs.length ≤ 140737488355328) (hfit : fitsL d σ.wd = true) (hxr : ∀ x ∈ xs, 0 ≤ x ∧ x < 256) (hdr : ∀ x ∈ d, 0 ≤ x ∧ x < 256) (hnl : xs.length ≤ 1048576) (hu : 0 ≤ σ.us) (hu2 : σ.us ≤ 1099511627776) (hsp : 0 ≤ σ.sp) (hsp2 : σ.sp ≤ 1099511627776) (hov : usedOf σ d xs ≤ σ.cp) (hxs : xs ≠ [] → ∀ g, bv.ownBlock = some g → g ≠ s) :
  Calls Tryz.prog 35 #[.pointer (some ⟨s, 0, none⟩), dv d, bv] w fun e w' => e = .returned (.int .i64 0) ∧ ∃ mv' σ', LayOk w.heap.size σ σ' d xs ∧ Stor w' s mv' σ' ∧ Kept (Own s mv) w w' ∧ (mv' = mv ∨ ∃ r, mv' = .map (some r) ∧ w.heap.size ≤ r) := by
 obtain ⟨bo, bc, hbv, _, _⟩ := id hx
 subst hbv
 have hds := size28_of d hd
 have HFI := hid_of (fun W => fits_any d σ.wd hd W)
 rw [hfit] at HFI
 have HW0 : Hid (w.cell? ⟨s, 0, none⟩ = some (.int .i64 σ.wd)) := h.cell 0
 have HLAY : Hid (∀ W, Kept (fun _ => False) w W → Calls Tryz.prog 51 #[.pointer (some ⟨s, 0, none⟩), .agg (d.map (Value.int .u8)).toArray, .slice bo xs.length bc] W fun e' w' => e' = .returned (.int .i64 0) ∧ ∃ mv' σ', LayOk W.heap.size σ σ' d xs ∧ Stor w' s mv' σ' ∧ Kept (Own s mv) W w' ∧ (mv' = mv ∨ ∃ r, mv' = .map (some r) ∧ W.heap.size ≤ r)) := fun W hW => lay_ok (h.kept hW (fun _ _ f => f)) d hd hdr _ xs (hx.kept2 hW (fun _ _ _ f => f)) hxr hnl hu hu2 hsp hsp2 hov hxs
 clear h hx hov hxr hdr
 unfold dv
 clear hfit
 generalize (d.map (Value.int .u8)).toArray = ds at *
 have HKA : Hid (Kept (fun _ => False) w (w.alloc (.cells ds 29))) := (Kept.refl _ w).alloc _
 have HDA : Hid ((w.alloc (.cells ds 29)).heap[w.heap.size]? = some (.cells ds 29 (0, 0))) := alloc_new _ _ rfl
 go_enter Tryz.func35, Tryz.ntmps35
 go_wp2
 generalize w.alloc (.cells ds 29) = wA at *
 have cA := HKA.out.cell HW0.out (fun f => f)
 refine wp_region_held_drew (S := fun w' => w'.cell? ⟨s, 0, none⟩ = some (.int .i64 σ.wd) ∧ w'.heap[w.heap.size]? = some (.cells ds 29 (0, 0))) (by kernel_rfl) ⟨cA, HDA.out⟩ (fun hHeld => ?_)
 refine tkg 0 (.agg ds) rfl (yields_row (by rfl) 29 _ rfl w.heap.size rfl 29 ds (0, 0) _ (fun w hSw => hSw.2) Tryz.underlying29 rfl hds) ?_
 try simp only [Act.put, tdy]
 iterate 4
  refine tkn (v := ?_) 1 rfl ?_ ?_; rotate_left 1
  ·intro w hSw; obtain ⟨s1, s2⟩ := hSw; go_simp; try with_reducible rfl
  try simp only [Act.put, tdy]
 refine wpAnyH_ready (rs := [5]) (by kernel_rfl) (by simp) ?_
 refine AllReadyH.cons rfl (fun K hK => ?_) .nil
 go_simp
 refine (HFI.out _).mono ?_
 rintro e w1 ⟨rfl, hk1⟩
 have hk1' : Kept (fun _ => False) wA w1 := (Kept.refl _ wA).drew.trans hk1
 have HKB := hid_of (HKA.out.trans hk1')
 have HDB := hid_of ((hk1'.block _ (heap_lt HDA.out) (fun f => f)).trans HDA.out)
 have cB := hk1'.cell cA (fun f => f)
 clear hk1 hk1'
 refine hK.out _ _ ⟨cB, HDB.out⟩ (fun hHeld => ?_)
 clear hK K
 try simp only [Act.put, tdy]
 refine tkp (v := ?_) 6 rfl ?_ ?_; rotate_left 1
 ·intro w hSw; go_simp; try with_reducible rfl
 try simp only [Act.put, tdy]
 refine wpAnyH_done (by kernel_rfl) ?_ _
 go_wp2_with (refine wpList_load_row rfl 29 _ rfl w.heap.size rfl 29 ds (0, 0) _ HDB.out Tryz.underlying29 rfl hds ?_)
 refine (HLAY.out w1 HKB.out).mono ?_
 rintro e w2 ⟨rfl, mv', σ', hlo, hS, hk2, hmv⟩
 have HE : Hid (∃ mv' σ', LayOk w.heap.size σ σ' d xs ∧ Stor w2 s mv' σ' ∧ Kept (Own s mv) w w2 ∧ (mv' = mv ∨ ∃ r, mv' = .map (some r) ∧ w.heap.size ≤ r)) := by
  have hsz := HKB.out.size
  obtain ⟨bv', born, hb1, hb2⟩ := hlo
  refine ⟨mv', σ', ⟨bv', born, fun g hg => by have := hb1 g hg; omega, hb2⟩, hS, (HKB.out.mono (T := Own s mv) (fun _ _ f => f.elim)).trans hk2, ?_⟩
  rcases hmv with h7 | ⟨r, h7, h8⟩
  ·exact .inl h7
  ·exact .inr ⟨r, h7, by omega⟩
 clear hlo hS hk2 hmv HLAY
 go_wp2
 go_ret
 exact ⟨rfl, HE.out⟩
set_option maxHeartbeats 2000000 in
theorem put_long {w : World} {s : Nat} {mv : Value} {σ : Sg} (h : Stor w s mv σ) (bv : Value) (xs : List Int) (hx : BIn w bv xs) (hn : 1048576 < xs.length) (hn2 : xs.length ≤ 140737488355328) (hpt : 0 ≤ σ.pt) (hpt2 : σ.pt ≤ 1099511627776) :
  Calls Tryz.prog 26 #[.pointer (some ⟨s, 0, none⟩), bv] w fun e w' => e = .returned (.tuple #[dv zeros32, .int .i64 2]) ∧ Stor w' s mv σ.put1 ∧ Kept (fun k => k = s) w w' := by
 obtain ⟨bo, bc, hbv, _, _⟩ := id hx
 subst hbv
 have hPN : (1048576 : Int) < (xs.length : Int) := by omega
 have c6 : w.cell? ⟨s, 6, none⟩ = some (.int .i64 σ.pt) := h.cell 6
 have f6 := h.fz 6
 have hsl := h.lt
 have hwp : IntKind.i64.wrap (σ.pt + 1) = σ.pt + 1 := by rw [IntKind.wrap_i64]; omega
 obtain ⟨hS1, hK1⟩ := h.set (σ' := σ.put1) 6 (.int .i64 (σ.pt + 1)) rfl rfl
 have HSA : Hid (Stor ((w.setCell ⟨s, 6, none⟩ (.int .i64 (σ.pt + 1))).alloc (.cells z32 29)) s mv σ.put1) := hS1.kept ((Kept.refl (fun _ => False) _).alloc _) (fun _ _ f => f)
 have HKA : Hid (Kept (fun k => k = s) w ((w.setCell ⟨s, 6, none⟩ (.int .i64 (σ.pt + 1))).alloc (.cells z32 29))) := hK1.alloc _
 have hsz : (w.setCell ⟨s, 6, none⟩ (.int .i64 (σ.pt + 1))).heap.size = w.heap.size := by simp [World.setCell]
 have HZA : Hid (((w.setCell ⟨s, 6, none⟩ (.int .i64 (σ.pt + 1))).alloc (.cells z32 29)).heap[w.heap.size]? = some (.cells z32 29 (0, 0))) := alloc_new _ _ hsz.symm
 have HFAR : Hid (∀ e' ∈ σ.es, e'.xs ≠ [] → e'.bv.ownBlock ≠ some w.heap.size) := fun e' he' hx0 hg => by
  obtain ⟨i, u, hu⟩ := (h.blob e' he').1.lt hx0 _ hg
  obtain ⟨cc, t, f, h7⟩ := cell_cells hu
  have := heap_lt h7
  omega
 have hz28 : (Tryz.prog.info? 29).map (·.size) = some (z32 : Array Value).size := size28
 have hzone : (z32 : Array Value).all (·.oneCell') = true := oneCells .u8 zeros32
 have HRZ : Hid (dv zeros32 = .agg z32) := rfl
 have HKR := hid_of (HKA.out.setRow (g := w.heap.size) (.inl (Nat.le_refl _)) z32)
 have HSR := hid_of (HSA.out.setRow w.heap.size z32 HZA.out ⟨by omega, HFAR.out⟩)
 have HRR := hid_of (setRow_heap _ w.heap.size _ z32 29 (0, 0) HZA.out)
 clear hS1 hK1 hsz h hx
 go_enter Tryz.func26, Tryz.ntmps26
 go_wp2_with (refine wpList_store_row rfl 29 _ _ rfl w.heap.size z32 rfl rfl 29 _ HZA.out hz28 rfl hzone ?_)
 try simp only [Act.put]
 refine bodyPost_ret (v := .tuple #[.agg z32, .int .i64 2]) ?_ rfl ⟨by rw [HRZ.out], HSR.out, HKR.out⟩
 exact results_row_tmp (fn := Tryz.f26) (p := 4) (u := 5) (by rfl) _ _ w.heap.size 29 z32 (0, 0) _ (by rfl) HRR.out Tryz.underlying29 rfl hz28
theorem len_none {w : World} {s : Nat} {σ : Sg} (h : Stor w s (.map none) σ) : Calls Tryz.prog 19 #[.pointer (some ⟨s, 0, none⟩)] w fun e w' => e = .returned (.int .i64 0) ∧ w' = w := by
 have c' : w.cell? ⟨s, 2, none⟩ = some (.map none) := h.cell 2
 clear h
 go_enter Tryz.func19, Tryz.ntmps19
 go_wp2
 go_ret
 exact ⟨rfl, rfl⟩
end Go.Proofs.YtjdbmjkidljhpaaGreatDoor

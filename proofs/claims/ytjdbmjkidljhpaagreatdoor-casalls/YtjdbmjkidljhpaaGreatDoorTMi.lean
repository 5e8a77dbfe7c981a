/-
 Mi: Rr, Cwhole.
-/
import Derived.Test.YtjdbmjkidljhpaaGreatDoorTRu
import Derived.Test.YtjdbmjkidljhpaaGreatDoorTMh
namespace Go.Proofs.YtjdbmjkidljhpaaGreatDoor
open Go.RowKit
set_option linter.unusedVariables false
set_option linter.unusedSimpArgs false
set_option maxRecDepth 100000
theorem own_zero {w : World} {base e s g : Nat} (h : w.heap[g]? = some (.cells #[] e (0, 0))) (hb : base ≤ g) : w.ownsRow base e s (.slice (some ⟨g, 0, none⟩) 0 0) 0 [] :=
 ⟨by simp, .inr ⟨g, 0, #[], rfl, hb, h, Nat.le_refl _, by simp [maxLen], by simp, by simp⟩⟩
/-- Bytes behind an empty row of one's own. -/
theorem app_bytes {w : World} {v : Value} {xs : List Int} (hx : BIn w v xs) (hn : xs.length ≤ 140737488355328) :
  ∃ v' w', (Builtin.append_ #[27, 27] 27 #[.slice (some ⟨w.heap.size, 0, none⟩) 0 0, v]).run Tryz.prog (w.alloc (.cells #[] 5)) = .ok v' w' ∧ w'.ownsRow w.heap.size 5 1 v' xs.length (xs.map (Value.int .u8)) ∧ Kept (fun _ => False) w w' := by
 obtain ⟨i0, hi, hz0, hz1, hz2⟩ := info_parts infoB
 have hE : (w.alloc (.cells #[] 5)).heap[w.heap.size]? = some (.cells #[] 5 (0, 0)) := alloc_new _ _ rfl
 obtain ⟨ao, c, rfl, hc, h1⟩ := hx
 cases ao with
 | none =>
  have h0 : xs = [] := by
   rcases h1 with h1 | ⟨b, o, h, _⟩
   ·exact h1
   ·cases h
  subst h0
  refine ⟨.slice (some ⟨w.heap.size, 0, none⟩) 0 0, w.alloc (.cells #[] 5), ?_, own_zero hE (Nat.le_refl _), (Kept.refl _ w).alloc _⟩
  simp [Builtin.append_, run_underlying Tryz.underlying27, sizeOf, typeInfo, hi, Builtin.lenOf, Builtin.firstCells, storeCells]
 | some p =>
  have hcc : ∀ j u, (xs.map (Value.int .u8))[j]? = some u → (w.alloc (.cells #[] 5)).cell? (p.add j) = some u := by
   intro j u hj
   have hjl : j < xs.length := by
    have := (List.getElem?_eq_some_iff.1 hj).1
    simpa using this
   refine Lib.cell?_alloc_some _ ?_
   rcases h1 with h1 | ⟨b, o, h, h1⟩
   ·rw [h1] at hjl; exact absurd hjl (Nat.not_lt_zero _)
   ·cases h
    rw [Addr.add_mid, h1 j hjl, ← hj]
    simp [List.getD, hjl]
  obtain ⟨v', w', hr, h2, h3, _⟩ := run_append_own (P := Tryz.prog) (w.alloc (.cells #[] 5)) w.heap.size 27 27 5 i0 _ 1 1 Tryz.underlying27 hi hz0 hz1 hz2 rfl (by decide) (.slice (some ⟨w.heap.size, 0, none⟩) 0 0) 0 [] (own_zero hE (Nat.le_refl _)) p xs.length c (xs.map (Value.int .u8)) (by simp) hcc (ones8 xs) (by unfold maxLen; omega) (by omega) (by simp)
  rw [Nat.zero_add, List.nil_append] at h2
  exact ⟨v', w', hr, h2, ((Kept.refl (fun _ => False) w).alloc _).grown h3 (fun k hk => .inl (by simp [Value.ownBlock] at hk; omega))⟩
theorem Rst.set {w : World} {r : Nat} {lv : Value} {ρ ρ' : Rg} (h : Rst w r lv ρ) (i : Nat) (u : Value) (hc : (ρ.cells lv).setIfInBounds i u = ρ'.cells lv) (hl : ρ'.l = ρ.l) : Rst (w.setCell ⟨r, i, none⟩ u) r lv ρ' ∧ Kept (fun k => k = r) w (w.setCell ⟨r, i, none⟩ u) := by
 have hk := kept_set w ⟨r, i, none⟩ u
 refine ⟨⟨by rw [set_block _ _ _ _ _ _ h.blk, hc], ?_, fun b hb => ?_, fun b hb => ?_, by rw [hl]; exact h.few⟩, hk⟩
 ·rw [hl]
  exact hk.ownsRow h.row (fun g hg e => h.apart (by have e' : g = r := e; rw [← e']; exact hg))
 ·rw [hl] at hb
  exact (h.ok b hb).kept hk (fun hx g hg e => (h.off b hb hx g hg).1 e)
 ·rw [hl] at hb
  exact h.off b hb
def rawB (l : List Bl) (d : List Int) : List Int := match findB l d with | some b => b.xs | none => []
def wholeR (k : Nat) (l : List Bl) (d : List Int) : Bool := match findB l d with | some b => decide (frontOf k b.xs = d) | none => false
def getR (k : Nat) (l : List Bl) (d : List Int) : Int := match findB l d with | some b => if frontOf k b.xs = d then 0 else 42 | none => 41
theorem Rst.rawok {w : World} {r : Nat} {lv : Value} {ρ : Rg} (h : Rst w r lv ρ) (d : List Int) : (∀ x ∈ rawB ρ.l d, 0 ≤ x ∧ x < 256) ∧ (rawB ρ.l d).length ≤ 1048576 := by
 unfold rawB
 cases hf : findB ρ.l d with
 | none => exact ⟨fun x hx => (by cases hx), Nat.zero_le _⟩
 | some b =>
  have hok := h.ok b (List.mem_of_getElem? (findB_some hf).1)
  exact ⟨hok.rng, hok.short⟩
set_option maxHeartbeats 4000000 in
theorem raw_ref {w : World} {r : Nat} {lv : Value} {ρ : Rg} (h : Rst w r lv ρ) (d : List Int) (hd : d.length = 32) : Calls Tryz.prog 42 #[.pointer (some ⟨r, 0, none⟩), dv d] w fun e w' => ∃ v, e = .returned (.tuple #[v, .bool (findB ρ.l d).isSome]) ∧ BIn w' v (rawB ρ.l d) ∧ (∀ g, v.ownBlock = some g → w.heap.size ≤ g) ∧ Kept (fun _ => False) w w' := by
 obtain ⟨ao, c, rfl⟩ := row_form h.row
 have HDS := hid_of (size29_arr d hd)
 have HPL : Hid (∀ W, Kept (fun _ => False) w W → Calls Tryz.prog 56 #[.pointer (some ⟨r, 0, none⟩), .agg (d.map (Value.int .u8)).toArray] W fun e w' => e = .returned (.tuple #[.int .i64 (atB ρ.l d : Int), .bool (findB ρ.l d).isSome]) ∧ Kept (fun _ => False) W w') := fun W hW => place_any (h.same hW) d hd
 have HC3 : Hid (∀ W, Kept (fun _ => False) w W → W.cell? ⟨r, 3, none⟩ = some (.slice ao ρ.l.length c)) := fun W hW => (h.same hW).cell 3
 have HKA : Hid (Kept (fun _ => False) w (w.alloc (.cells (d.map (Value.int .u8)).toArray 29))) := (Kept.refl _ w).alloc _
 have HBA : Hid ((w.alloc (.cells (d.map (Value.int .u8)).toArray 29)).heap[w.heap.size]? = some (.cells (d.map (Value.int .u8)).toArray 29 (0, 0))) := alloc_new _ _ rfl
 have hcase : (findB ρ.l d = none) ∨ ∃ (b : Bl) (g : Nat) (bo : Option Addr) (bc : Nat), findB ρ.l d = some b ∧ atB ρ.l d < ρ.l.length ∧ ao = some ⟨g, 0, none⟩ ∧ b.xs.length ≤ 1048576 ∧ (∀ W, Kept (fun _ => False) w W → W.cell? ⟨g, atB ρ.l d * 34 + 32, none⟩ = some (.slice bo b.xs.length bc) ∧ BIn W (.slice bo b.xs.length bc) b.xs) := by
  cases hf : findB ρ.l d with
  | none => exact .inl rfl
  | some b =>
   have hat := (findB_some hf).1
   have hok := h.ok b (List.mem_of_getElem? hat)
   have hlt := (List.getElem?_eq_some_iff.1 hat).1
   obtain ⟨g, c', e⟩ := row_some h.row (by omega)
   cases e
   obtain ⟨bo, bc, hbv⟩ := hok.bin.form
   refine .inr ⟨b, g, bo, bc, rfl, hlt, rfl, hok.short, fun W hW => ?_⟩
   rw [← hbv]
   exact ⟨(Bl.range hok.len (row_get (h.same hW).row h.k32 hat)).2.1, ((h.same hW).ok b (List.mem_of_getElem? hat)).bin⟩
 unfold dv rawB
 clear h hd
 generalize (d.map (Value.int .u8)).toArray = ds at *
 generalize ρ.l.length = n at *
 rcases hcase with hf | ⟨b, g, bo, bc, hf, hlt, rfl, hsh, hcell⟩
 ·rw [hf] at HPL ⊢
  generalize atB ρ.l d = at_ at *
  clear hf
  go_enter Tryz.func42, Tryz.ntmps42
  go_upto_region 1 with fail
  generalize w.alloc (.cells ds 29) = wA at *
  go_wp2_with (refine wpList_load_row rfl 29 _ rfl w.heap.size rfl 29 ds (0, 0) _ HBA.out Tryz.underlying29 rfl HDS.out ?_)
  refine (HPL.out _ HKA.out).mono ?_
  rintro e w2 ⟨rfl, hk2⟩
  have HK2 := hid_of (HKA.out.trans hk2)
  clear hk2
  go_wp2
  go_ret2
  exact ⟨_, rfl, ⟨none, 0, rfl, Nat.le_refl _, .inl rfl⟩, fun g hg => (by cases hg), HK2.out⟩
 ·rw [hf] at HPL ⊢
  obtain ⟨k, hkk⟩ : ∃ k, k = atB ρ.l d := ⟨_, rfl⟩
  rw [← hkk] at hcell hlt HPL
  have HCL := hid_of hcell
  have hltI : (k : Int) < (n : Int) := by omega
  clear hf hcell hkk
  go_enter Tryz.func42, Tryz.ntmps42
  go_upto_region 1 with fail
  generalize w.alloc (.cells ds 29) = wA at *
  go_wp2_with (refine wpList_load_row rfl 29 _ rfl w.heap.size rfl 29 ds (0, 0) _ HBA.out Tryz.underlying29 rfl HDS.out ?_)
  refine (HPL.out _ HKA.out).mono ?_
  rintro e w2 ⟨rfl, hk2⟩
  have HK2 := hid_of (HKA.out.trans hk2)
  have hke : Kept (fun _ => False) w2 (w2.alloc (.cells #[] 5)) := (Kept.refl _ _).alloc _
  have c3 := HC3.out _ (HK2.out.trans hke)
  have c32 := (HCL.out _ (HK2.out.trans hke)).1
  obtain ⟨v', w4, hr4, ho4, hk4⟩ := app_bytes (HCL.out _ HK2.out).2 (by omega)
  have HR4 := hid_of hr4
  have HO4 := hid_of ho4
  have HK4 := hid_of (HK2.out.trans hk4)
  have HS4 := hid_of HK2.out.size
  clear hk2 hke hr4 ho4 hk4
  generalize b.xs.length = m at *
  go_wp2_with (at_builtin; refine wp_app rfl (.tmp 16) (.tmp 24) 27 27 rfl _ _ rfl rfl v' w4 HR4.out ?_)
  go_ret2
  exact ⟨_, rfl, (own_bin HO4.out).1, fun g hg => Nat.le_trans HS4.out ((own_bin HO4.out).2 g hg).1, HK4.out⟩
end Go.Proofs.YtjdbmjkidljhpaaGreatDoor
namespace Go.Proofs.YtjdbmjkidljhpaaGreatDoor
open Go.RowKit
set_option linter.unusedVariables false
set_option linter.unusedSimpArgs false
set_option maxRecDepth 100000
/-- Whether what lies there is of that digest. -/
def wholeB (k : Nat) (es : List En) (d : List Int) : Bool := match look es d with | some e => decide (frontOf k e.xs = d) | none => false
theorem Stor.lookw {w : World} {s : Nat} {mv : Value} {σ : Sg} (h : Stor w s mv σ) (d : List Int) (hd : d.length = 32) (c : Bool) (W : World) (hW : Kept (fun _ => False) w W) :
  (Instr.lookup 63 mv (.agg (d.map (Value.int .u8)).toArray) c).run Tryz.prog W = .ok (if c then .tuple #[lookV σ.es d, .bool (look σ.es d).isSome] else lookV σ.es d) W :=
 (h.kept hW (fun _ _ f => f)).found d hd c
/-- What a look-up tells is a slice of bytes and a number. -/
theorem Stor.shape {w : World} {s : Nat} {mv : Value} {σ : Sg} (h : Stor w s mv σ) (d : List Int) : ∃ ao n c st, lookV σ.es d = .agg #[.slice ao n c, .int .i64 st] := by
 unfold lookV
 cases hl : look σ.es d with
 | none => exact ⟨none, 0, 0, 0, rfl⟩
 | some e =>
  obtain ⟨ao, c, hb, _⟩ := (h.blob e (look_mem _ _ _ hl).1).1
  exact ⟨ao, e.xs.length, c, e.st, by show Value.agg #[e.bv, .int .i64 e.st] = _; rw [hb]⟩
theorem size28_of (d : List Int) (hd : d.length = 32) : (Tryz.prog.info? 29).map (·.size) = some (d.map (Value.int .u8)).toArray.size := by simp [size28, hd]
set_option maxHeartbeats 4000000 in
theorem whole_any {w : World} {s : Nat} {mv : Value} {σ : Sg} (h : Stor w s mv σ) (hL : Laid w) (k : Nat) (hk : σ.wd = k) (h1 : 1 ≤ k) (h2 : k ≤ 32) (d : List Int) (hd : d.length = 32) :
  Calls Tryz.prog 44 #[.pointer (some ⟨s, 0, none⟩), dv d] w fun e w' => e = .returned (.bool (wholeB k σ.es d)) ∧ Kept (fun _ => False) w w' := by
 obtain ⟨ao, n, c, st, hV⟩ := h.shape d
 have hds := size28_of d hd
 have HL2 : Hid (∀ W, Kept (fun _ => False) w W → (Instr.lookup 63 mv (.agg (d.map (Value.int .u8)).toArray) true).run Tryz.prog W = .ok (.tuple #[.agg #[.slice ao n c, .int .i64 st], .bool (look σ.es d).isSome]) W) := fun W hW => by
  have := h.lookw d hd true W hW
  rw [hV] at this
  exact this
 have HM : Hid (w.cell? ⟨s, 2, none⟩ = some mv) := h.cell 2
 have HDG : Hid (∀ e, look σ.es d = some e → .slice ao n c = e.bv ∧ ∀ W, Kept (fun _ => False) w W → Calls Tryz.prog 37 #[.pointer (some ⟨s, 0, none⟩), .slice ao n c] W fun e' w' => e' = .returned (dv (frontOf k e.xs)) ∧ Kept (fun _ => False) W w') := fun e he => by
  have hb := h.blob e (look_mem _ _ _ he).1
  have hbv : Value.slice ao n c = e.bv := by
   unfold lookV at hV
   rw [he] at hV
   unfold En.val at hV
   injection hV with hV
   have := congrArg (fun a => a[0]?) hV
   simpa using this.symm
  refine ⟨hbv, fun W hW => ?_⟩
  rw [hbv]
  have hW' := h.kept hW (fun _ _ f => f)
  have hc0 : W.cell? ⟨s, 0, none⟩ = some (.int .i64 σ.wd) := hW'.cell 0
  rw [hk] at hc0
  exact digest_cells s k h1 h2 e.bv e.xs W hc0 (laid_kept hL hW (fun f => f)) (hb.1.kept2 hW (fun _ _ _ f => f)) hb.2.1 (by have := hb.2.2.1; omega)
 have HEQ : Hid (∀ e, look σ.es d = some e → ∀ W, (Op.equalIn 10000 29 (dv (frontOf k e.xs)) (.agg (d.map (Value.int .u8)).toArray)).run Tryz.prog W = .ok (decide (frontOf k e.xs = d)) W) := fun e he W =>
  run_eq_arr W 9998 29 32 (frontOf k e.xs) d Tryz.underlying29 (frontOf_len k e.xs h2) hd
 have HWB : Hid (wholeB k σ.es d = match look σ.es d with | some e => decide (frontOf k e.xs = d) | none => false) := rfl
 unfold dv at *
 clear h hV hL
 generalize (d.map (Value.int .u8)).toArray = ds at *
 cases hl : look σ.es d with
 | none =>
  rw [hl] at HL2 HWB
  clear HDG HEQ
  have HS : Hid (∀ W, Kept (fun _ => False) (w.alloc (.cells ds 29)) W → W.cell? ⟨s, 2, none⟩ = some mv ∧ W.heap[w.heap.size]? = some (.cells ds 29 (0, 0)) ∧ (Instr.lookup 63 mv (.agg ds) true).run Tryz.prog W = .ok (.tuple #[.agg #[.slice ao n c, .int .i64 st], .bool false]) W) := fun W hW =>
   ⟨hW.cell ((Kept.refl (fun _ => False) w).alloc _ |>.cell HM.out (fun f => f)) (fun f => f), (hW.block _ (by simp) (fun f => f)).trans (alloc_new _ _ rfl), HL2.out W (((Kept.refl (fun _ => False) w).alloc _).trans hW)⟩
  have HKA : Hid (Kept (fun _ => False) w (w.alloc (.cells ds 29))) := (Kept.refl _ w).alloc _
  go_enter Tryz.func44, Tryz.ntmps44
  go_wp2
  generalize w.alloc (.cells ds 29) = wA at *
  refine wp_region_held_drew (S := fun w' => w'.cell? ⟨s, 2, none⟩ = some mv ∧ w'.heap[w.heap.size]? = some (.cells ds 29 (0, 0)) ∧ (Instr.lookup 63 mv (.agg ds) true).run Tryz.prog w' = .ok (.tuple #[.agg #[.slice ao n c, .int .i64 st], .bool false]) w') (by kernel_rfl) (HS.out _ ((Kept.refl _ wA).drew)) (fun hHeld => ?_)
  iterate 4
   refine tkn (v := ?_) 0 rfl ?_ ?_; rotate_left 1
   ·intro w hSw; obtain ⟨s1, s2, s3⟩ := hSw; go_simp; try with_reducible rfl
   try simp only [Act.put, tdy]
  refine tkg 4 (.agg ds) rfl (yields_row (by rfl) 29 _ rfl w.heap.size rfl 29 ds (0, 0) _ (fun w hSw => hSw.2.1) Tryz.underlying29 rfl hds) ?_
  try simp only [Act.put, tdy]
  iterate 4
   refine tkn (v := ?_) 5 rfl ?_ ?_; rotate_left 1
   ·intro w hSw; obtain ⟨s1, s2, s3⟩ := hSw; go_simp; try with_reducible rfl
   try simp only [Act.put, tdy]
  refine wpAnyH_ready (rs := [9]) (by kernel_rfl) (by simp) ?_
  refine AllReadyH.cons rfl (fun K hK => ?_) .nil
  go_simp
  refine hK.out _ _ (HS.out _ (((Kept.refl _ wA).alloc _).drew)) (fun hHeld => ?_)
  clear hK K
  try simp only [Act.put, tdy]
  refine wpAnyH_ready (rs := [10]) (by kernel_rfl) (by simp) ?_
  refine AllReadyH.cons rfl (fun K hK => ?_) .nil
  go_simp
  refine hK.out _ _ (HS.out _ (((Kept.refl _ wA).alloc _).drew)) (fun hHeld => ?_)
  clear hK K
  try simp only [Act.put, tdy]
  refine tkp (v := ?_) 11 rfl ?_ ?_; rotate_left 1
  ·intro w hSw; obtain ⟨s1, s2, s3⟩ := hSw; go_simp; try with_reducible rfl
  try simp only [Act.put, tdy]
  refine wpAnyH_done (by kernel_rfl) ?_ _
  go_wp2
  refine wp_region_held_drew (S := fun w' => True) (by kernel_rfl) trivial (fun hHeld => ?_)
  iterate 2
   refine tkn (v := ?_) 0 rfl ?_ ?_; rotate_left 1
   ·intro w hSw; go_simp; try with_reducible rfl
   try simp only [Act.put, tdy]
  iterate 3
   refine tkm 2 rfl ?_
   try simp only [Act.put, tdy]
  refine tku 6 rfl ?_
  try simp only [Act.put, tdy]
  refine wpAnyH_ready (rs := [5]) (by kernel_rfl) (by simp) ?_
  refine AllReadyH.cons rfl (fun K hK => ?_) .nil
  go_simp
  refine hK.out _ _ trivial (fun hHeld => ?_)
  clear hK K
  try simp only [Act.put, tdy]
  refine tku 7 rfl ?_
  try simp only [Act.put, tdy]
  iterate 2
   refine tkn (v := ?_) 8 rfl ?_ ?_; rotate_left 1
   ·intro w hSw; go_simp; try with_reducible rfl
   try simp only [Act.put, tdy]
  refine wpAnyH_done (by kernel_rfl) ?_ _
  go_wp2
  go_ret
  exact ⟨by rw [HWB.out]; rfl, ((HKA.out.alloc _).drew).drew⟩
 | some e =>
  have HDD := hid_of (HDG.out e hl).2
  have HQ := hid_of (HEQ.out e hl)
  rw [hl] at HL2 HWB
  clear HDG HEQ
  have HS : Hid (∀ W, Kept (fun _ => False) (w.alloc (.cells ds 29)) W → W.cell? ⟨s, 2, none⟩ = some mv ∧ W.heap[w.heap.size]? = some (.cells ds 29 (0, 0)) ∧ (Instr.lookup 63 mv (.agg ds) true).run Tryz.prog W = .ok (.tuple #[.agg #[.slice ao n c, .int .i64 st], .bool true]) W) := fun W hW =>
   ⟨hW.cell ((Kept.refl (fun _ => False) w).alloc _ |>.cell HM.out (fun f => f)) (fun f => f), (hW.block _ (by simp) (fun f => f)).trans (alloc_new _ _ rfl), HL2.out W (((Kept.refl (fun _ => False) w).alloc _).trans hW)⟩
  have HKA : Hid (Kept (fun _ => False) w (w.alloc (.cells ds 29))) := (Kept.refl _ w).alloc _
  have HWX : Hid (wholeB k σ.es d = decide (frontOf k e.xs = d)) := HWB.out
  clear HWB
  generalize ((frontOf k e.xs).map (Value.int .u8)).toArray = fs at *
  generalize decide (frontOf k e.xs = d) = tb at *
  go_enter Tryz.func44, Tryz.ntmps44
  go_wp2
  generalize w.alloc (.cells ds 29) = wA at *
  refine wp_region_held_drew (S := fun w' => w'.cell? ⟨s, 2, none⟩ = some mv ∧ w'.heap[w.heap.size]? = some (.cells ds 29 (0, 0)) ∧ (Instr.lookup 63 mv (.agg ds) true).run Tryz.prog w' = .ok (.tuple #[.agg #[.slice ao n c, .int .i64 st], .bool true]) w') (by kernel_rfl) (HS.out _ ((Kept.refl _ wA).drew)) (fun hHeld => ?_)
  iterate 4
   refine tkn (v := ?_) 0 rfl ?_ ?_; rotate_left 1
   ·intro w hSw; obtain ⟨s1, s2, s3⟩ := hSw; go_simp; try with_reducible rfl
   try simp only [Act.put, tdy]
  refine tkg 4 (.agg ds) rfl (yields_row (by rfl) 29 _ rfl w.heap.size rfl 29 ds (0, 0) _ (fun w hSw => hSw.2.1) Tryz.underlying29 rfl hds) ?_
  try simp only [Act.put, tdy]
  iterate 4
   refine tkn (v := ?_) 5 rfl ?_ ?_; rotate_left 1
   ·intro w hSw; obtain ⟨s1, s2, s3⟩ := hSw; go_simp; try with_reducible rfl
   try simp only [Act.put, tdy]
  refine wpAnyH_ready (rs := [9]) (by kernel_rfl) (by simp) ?_
  refine AllReadyH.cons rfl (fun K hK => ?_) .nil
  go_simp
  refine hK.out _ _ (HS.out _ (((Kept.refl _ wA).alloc _).drew)) (fun hHeld => ?_)
  clear hK K
  try simp only [Act.put, tdy]
  refine wpAnyH_ready (rs := [10]) (by kernel_rfl) (by simp) ?_
  refine AllReadyH.cons rfl (fun K hK => ?_) .nil
  go_simp
  refine hK.out _ _ (HS.out _ (((Kept.refl _ wA).alloc _).drew)) (fun hHeld => ?_)
  clear hK K
  try simp only [Act.put, tdy]
  refine tkp (v := ?_) 11 rfl ?_ ?_; rotate_left 1
  ·intro w hSw; obtain ⟨s1, s2, s3⟩ := hSw; go_simp; try with_reducible rfl
  try simp only [Act.put, tdy]
  refine wpAnyH_done (by kernel_rfl) ?_ _
  go_wp2
  have HC5 : Hid ((wA.alloc (.cells #[.slice ao n c, .int .i64 st] 87)).cell? ⟨wA.heap.size, 0, none⟩ = some (.slice ao n c)) := (cell_block _ _ _ _ _ _ (alloc_new _ _ rfl)).trans rfl
  have HD3 : Hid ((wA.alloc (.cells #[.slice ao n c, .int .i64 st] 87)).heap[w.heap.size]? = some (.cells ds 29 (0, 0))) := alloc_old (HS.out wA (Kept.refl _ _)).2.1
  have HKB : Hid (Kept (fun _ => False) w (wA.alloc (.cells #[.slice ao n c, .int .i64 st] 87))) := HKA.out.alloc _
  generalize hb5 : wA.heap.size = b5 at *
  generalize wA.alloc (.cells #[.slice ao n c, .int .i64 st] 87) = wB at *
  clear HS hb5
  refine wp_region_held_drew (S := fun w' => w'.cell? ⟨b5, 0, none⟩ = some (.slice ao n c) ∧ w'.heap[w.heap.size]? = some (.cells ds 29 (0, 0))) (by kernel_rfl) ⟨HC5.out, HD3.out⟩ (fun hHeld => ?_)
  iterate 5
   refine tkn (v := ?_) 0 rfl ?_ ?_; rotate_left 1
   ·intro w hSw; obtain ⟨s1, s2⟩ := hSw; go_simp; try with_reducible rfl
   try simp only [Act.put, tdy]
  refine tkg 6 (.agg ds) rfl (yields_row (by rfl) 29 _ rfl w.heap.size rfl 29 ds (0, 0) _ (fun w hSw => hSw.2) Tryz.underlying29 rfl hds) ?_
  try simp only [Act.put, tdy]
  refine wpAnyH_ready (rs := [5]) (by kernel_rfl) (by simp) ?_
  refine AllReadyH.cons rfl (fun K hK => ?_) .nil
  go_simp
  refine (HDD.out _ (HKB.out.drew.drew)).mono ?_
  rintro e w2 ⟨rfl, hk2⟩
  have HK2 := hid_of (HKB.out.drew.drew.trans hk2)
  have C5 := hk2.cell (show wB.drew.drew.cell? _ = _ from HC5.out) (fun f => f)
  have D3 := (hk2.block _ (heap_lt HD3.out) (fun f => f)).trans (show wB.drew.drew.heap[_]? = _ from HD3.out)
  clear hk2
  refine hK.out _ _ ⟨C5, D3⟩ (fun hHeld => ?_)
  clear hK K
  try simp only [Act.put, tdy]
  refine tkp (v := ?_) 7 rfl ?_ ?_; rotate_left 1
  ·intro w hSw; have hq := HQ.out w; go_simp; try with_reducible rfl
  try simp only [Act.put, tdy]
  iterate 2
   refine tkn (v := ?_) 8 rfl ?_ ?_; rotate_left 1
   ·intro w hSw; go_simp; try with_reducible rfl
   try simp only [Act.put, tdy]
  refine wpAnyH_done (by kernel_rfl) ?_ _
  go_wp2
  go_ret
  exact ⟨by rw [HWX.out]; rfl, HK2.out⟩
end Go.Proofs.YtjdbmjkidljhpaaGreatDoor

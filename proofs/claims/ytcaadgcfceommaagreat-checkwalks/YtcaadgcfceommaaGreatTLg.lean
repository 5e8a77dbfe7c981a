/-
  TLg: Lg, Lh, Li, Lj, Lk.
-/
import Derived.Test.YtcaadgcfceommaaGreatTLc
namespace Go.Proofs.YtcaadgcfceommaaGreat
open Go.RowKit
set_option linter.unusedVariables false
set_option linter.unusedSimpArgs false
set_option maxRecDepth 100000

theorem results_row2t {P : Program} {fn : Func} {p q r : Tmp} {ty ty2 : TypeId} (h : fn.results = #[.cell p ty, .cell q ty2, .tmp r]) (tmps : Array Value) (w : World) (g g2 : Nat) (t t2 : TypeId) (cs cs2 : Array Value) (fr fr2 : Nat × Nat) (d d2 : TypeDesc)
    (hp : tmps.getD p undef = .pointer (some ⟨g, 0, none⟩)) (hg : w.heap[g]? = some (.cells cs t fr)) (hu : P.underlying ty = some d) (hd : (match d with | .struct _ | .array _ _ => true | _ => false) = true) (hi : (P.info? ty).map (·.size) = some cs.size)
    (hp2 : tmps.getD q undef = .pointer (some ⟨g2, 0, none⟩)) (hg2 : w.heap[g2]? = some (.cells cs2 t2 fr2)) (hu2 : P.underlying ty2 = some d2) (hd2 : (match d2 with | .struct _ | .array _ _ => true | _ => false) = true) (hi2 : (P.info? ty2).map (·.size) = some cs2.size) :
    (results fn tmps).run P w = .ok (.tuple #[.agg cs, .agg cs2, tmps.getD r undef]) w := by
  have hp' : tmps[p]?.getD undef = .pointer (some ⟨g, 0, none⟩) := by simpa using hp
  have hp2' : tmps[q]?.getD undef = .pointer (some ⟨g2, 0, none⟩) := by simpa using hp2
  simp [results, h, hp', hp2', asAddr, run_loadVar_row w g t ty cs fr d hg hu hd hi, run_loadVar_row w g2 t2 ty2 cs2 fr2 d2 hg2 hu2 hd2 hi2]
theorem set2 (w : World) (g : Nat) (t : TypeId) (a b x y : Value) (h : w.heap[g]? = some (.cells #[a, b] t (0, 0))) :
    ((w.setCell ⟨g, 0, none⟩ x).setCell ⟨g, 1, none⟩ y).heap[g]? = some (.cells #[x, y] t (0, 0)) ∧ Kept (fun k => k = g) w ((w.setCell ⟨g, 0, none⟩ x).setCell ⟨g, 1, none⟩ y) := by
  have h1 := set_block _ _ 0 _ _ _ h x
  have h2 := set_block _ _ 1 _ _ _ h1 y
  exact ⟨h2, (kept_set w g 0 x).trans (kept_set _ g 1 y)⟩
theorem look2 {w : World} {g : Nat} {t : TypeId} {a b : Value} (h : w.heap[g]? = some (.cells #[a, b] t (0, 0))) : w.cell? ⟨g, 0, none⟩ = some a ∧ w.cell? ⟨g, 1, none⟩ = some b ∧ w.frozen? ⟨g, 0, none⟩ = false ∧ w.frozen? ⟨g, 1, none⟩ = false :=
  ⟨cell_block _ _ 0 _ _ _ h, cell_block _ _ 1 _ _ _ h, frozen_block _ _ 0 _ _ h, frozen_block _ _ 1 _ _ h⟩
theorem size64 : (Tryz.prog.info? 64).map (·.size) = some 2 := by kernel_rfl
/-- The instruction at a spot, and its function. -/
def instrD (p : PG) (sf sa : Int) : Option (IN × FN) :=
  if 0 ≤ sf ∧ sf < p.fns.length then (p.fns[sf.toNat]?).bind (fun f => if 0 ≤ sa ∧ sa < f.code.length then (f.code[sa.toNat]?).map (fun x => (x, f)) else none) else none
def InstR (p : PG) (sf sa : Int) (w : World) (e : Ending) (w' : World) : Prop := Kept (fun _ => False) w w' ∧
  match instrD p sf sa with
  | none => e = .returned (.tuple #[.agg #[.int .i64 0, .int .i64 0], .agg #[.int .i64 0, .int .i64 0, .int .i64 0, .slice none 0 0], .bool false])
  | some (x, f) => ∃ cao cc, e = .returned (.tuple #[.agg #[.int .i64 x.op, .int .i64 x.a], .agg #[.int .i64 f.a, .int .i64 f.l, .int .i64 f.r, .slice cao f.code.length cc], .bool true]) ∧ RowI w' (.slice cao f.code.length cc) f.code
set_option maxHeartbeats 8000000 in
theorem instr_any (v : Value) (p : PG) (w : World) (B : Nat) (h : PgIs w B v p) (hB : B ≤ w.heap.size) (sf sa : Int) :
    Calls Tryz.prog 46 #[v, .agg #[.int .i64 sf, .int .i64 sa]] w (InstR p sf sa w) := by
  obtain ⟨dv, fv, rfl, hd, hdl, hf⟩ := h
  obtain ⟨dao, dc, rfl⟩ := hd.shape
  obtain ⟨fao, fc, rfl⟩ := hf.shape
  obtain ⟨nf, hnf⟩ : ∃ n, n = p.fns.length := ⟨_, rfl⟩
  obtain ⟨nd, hnd⟩ : ∃ n, n = p.data.length := ⟨_, rfl⟩
  obtain ⟨mem, hmem⟩ : ∃ n, n = p.mem := ⟨_, rfl⟩
  rw [← hnf, ← hnd, ← hmem]
  rw [← hnf] at hf
  obtain ⟨s, hs⟩ : ∃ g, g = w.heap.size := ⟨_, rfl⟩
  obtain ⟨W1, hW1⟩ : ∃ W, W = (w.alloc (.cells #[.int .i64 mem, .slice dao nd dc, .slice fao nf fc] 25)).alloc (.cells #[.int .i64 sf, .int .i64 sa] 36) := ⟨_, rfl⟩
  obtain ⟨k1, x1, x2⟩ := allocs2 _ _ _ _ _ _ hW1
  have hs1 : W1.heap.size = s + 2 := by rw [hW1, hs]; simp
  obtain ⟨W, hW⟩ : ∃ W, W = (W1.alloc (.cells #[.int .i64 0, .int .i64 0] 64)).alloc (.cells #[.int .i64 0, .int .i64 0, .int .i64 0, .slice none 0 0] 56) := ⟨_, rfl⟩
  obtain ⟨k2, x3, x4⟩ := allocs2 _ _ _ _ _ _ hW
  rw [hs1] at x3 x4
  rw [← hs] at x1 x2
  have hb1 := box_kept k2 x1 (fun f => f)
  have hb2 := box_kept k2 x2 (fun f => f)
  have HSZ : Hid (W.heap.size = s + 4) := by unfold Hid; rw [hW]; simp [hs1]
  have HKW := hid_of (k1.trans k2)
  have HB1 := hid_of hb1
  have HB2 := hid_of hb2
  have HB3 := hid_of x3
  have HB4 : Hid (W.heap[s + 3]? = _) := x4
  have HGB := hid_of hs
  have HBS : Hid (B ≤ s) := by rw [hs]; exact hB
  clear hB
  have HF := hid_of (hf.kept HKW.out (fun _ _ f => f))
  have HNF := hid_of hnf
  have c2 := cell_block _ _ 2 _ _ _ hb1
  have e0 := cell_block _ _ 0 _ _ _ hb2
  have e1 := cell_block _ _ 1 _ _ _ hb2
  have HAM := hid_of (fun (n m : Int) W => among_any n m W)
  rw [hW1] at hW
  clear hb1 hb2 x1 x2 x3 x4 k1 k2 hs1 hd hdl hf hnf hnd hmem hW1
  go_enter Tryz.func46, Tryz.ntmps46
  go_upto_region 1 with fail
  rw [← hW, ← hs]
  clear hW hs
  by_cases hsf : 0 ≤ sf ∧ sf < (nf : Int)
  · have ham : amg sf nf = true := (amg_iff _ _).2 hsf
    have HA1 := hid_of (among_any sf nf W)
    rw [ham] at HA1
    go_wp2_with fail
    refine HA1.out.mono ?_
    rintro e w2 ⟨rfl, hw2⟩
    have hw2 := hw2.symm
    subst hw2
    obtain ⟨i, hi⟩ : ∃ i : Nat, sf = (i : Int) := ⟨sf.toNat, by omega⟩
    subst hi
    have hil : i < p.fns.length := by rw [← HNF.out]; omega
    obtain ⟨gf, o, f, hao, hgB, hff, hfa⟩ := HF.out.at (i := i) hil
    subst hao
    obtain ⟨cao, cc, z0, z1, z2, z3, hri, hcl⟩ := fn_read hfa
    have hiI : (i : Int) < (nf : Int) := hsf.2
    have HID0 : Hid (instrD p (i : Int) sa = if 0 ≤ sa ∧ sa < f.code.length then (f.code[sa.toNat]?).map (fun x => (x, f)) else none) := by
      unfold Hid instrD
      rw [if_pos (by rw [← HNF.out]; exact hsf), Int.toNat_natCast, hff]
      rfl
    obtain ⟨n, hn⟩ : ∃ n, n = f.code.length := ⟨_, rfl⟩
    rw [← hn] at z3 hri HID0
    have HN := hid_of hn
    have HCL := hid_of hcl
    have HRI := hid_of hri
    have HFF : Hid (∃ fa fl fr, fa = f.a ∧ fl = f.l ∧ fr = f.r) := ⟨_, _, _, rfl, rfl, rfl⟩
    have hkA : Kept (fun _ => False) W (W.alloc (.cells #[.int .i64 f.a, .int .i64 f.l, .int .i64 f.r, .slice cao n cc] 56)) := (Kept.refl _ _).alloc _
    have hbA := heap_alloc_new W (.cells #[.int .i64 f.a, .int .i64 f.l, .int .i64 f.r, .slice cao n cc] 56)
    have HKA := hid_of hkA
    have HBA := hid_of hbA
    have HG0 : Hid (s + 3 < W.heap.size) := by have := HSZ.out; unfold Hid; omega
    clear hkA hbA hfa hcl hff hn hri HA1 ham hsf HFF hil
    obtain ⟨fa, hfa⟩ : ∃ x, x = f.a := ⟨_, rfl⟩
    obtain ⟨fl, hfl⟩ : ∃ x, x = f.l := ⟨_, rfl⟩
    obtain ⟨fr, hfr⟩ : ∃ x, x = f.r := ⟨_, rfl⟩
    rw [← hfa] at z0
    rw [← hfl] at z1
    rw [← hfr] at z2
    rw [← hfa, ← hfl, ← hfr] at HKA HBA
    have HFV := hid_of (And.intro hfa (And.intro hfl hfr))
    clear hfa hfl hfr
    go_upto_region 4 with fail
    clear z0 z1 z2 z3 c2 e0 e1
    generalize W.alloc (.cells #[.int .i64 fa, .int .i64 fl, .int .i64 fr, .slice cao n cc] 56) = w3 at *
    generalize W.heap.size = gx at *
    have HK3 := hid_of (HKW.out.trans HKA.out)
    have HC2 := hid_of (box_kept HKA.out HB2.out (fun f => f))
    have HC3 := hid_of (box_kept HKA.out HB3.out (fun f => f))
    have HC4 := hid_of (box_kept HKA.out HB4.out (fun f => f))
    have e1 := cell_block _ _ 1 _ _ _ HC2.out
    have g3 := cell_block _ _ 3 _ _ _ HBA.out
    have HRI3 := hid_of (HRI.out.keptB HKA.out (fun _ _ _ f => f))
    clear HB2 HB3 HB4 HRI HKA HKW HF HB1
    have hgx := HG0.out
    by_cases hsa : 0 ≤ sa ∧ sa < (n : Int)
    · have ham : amg sa n = true := (amg_iff _ _).2 hsa
      have HA1 := hid_of (among_any sa n w3)
      rw [ham] at HA1
      obtain ⟨j, hj⟩ : ∃ j : Nat, sa = (j : Int) := ⟨sa.toNat, by omega⟩
      subst hj
      have hjI : (j : Int) < (n : Int) := hsa.2
      obtain ⟨gi, oi, x, hai, hx, hxr⟩ := rowI_at HRI3.out (i := j) (by rw [← HN.out]; omega)
      subst hai
      have HID : Hid (instrD p (i : Int) (j : Int) = some (x, f)) := by
        unfold Hid
        rw [HID0.out, if_pos hsa, Int.toNat_natCast, hx]
        rfl
      obtain ⟨op, ia⟩ := x
      have HSM : Hid (∀ w', Kept (fun q => q = s + 2 ∨ q = s + 3) w3 w' → w'.cell? ⟨s + 1, 1, none⟩ = some (.int .i64 (j : Int)) ∧ w'.cell? ⟨gx, 0, none⟩ = some (.int .i64 fa) ∧ w'.cell? ⟨gx, 1, none⟩ = some (.int .i64 fl) ∧ w'.cell? ⟨gx, 2, none⟩ = some (.int .i64 fr) ∧ w'.cell? ⟨gx, 3, none⟩ = some (.slice (some ⟨gi, oi, none⟩) n cc) ∧ w'.cell? ⟨gi, oi + j * 2, none⟩ = some (.int .i64 op) ∧ w'.cell? ⟨gi, oi + j * 2 + 1, none⟩ = some (.int .i64 ia)) := fun w' hw => by
        have hne : ¬ (gx = s + 2 ∨ gx = s + 3) := by omega
        have hne1 : ¬ (s + 1 = s + 2 ∨ s + 1 = s + 3) := by omega
        have hne2 : ¬ (gi = s + 2 ∨ gi = s + 3) := by
          have h1 := HCL.out gi rfl (by rw [← HN.out]; omega)
          have h2 := HBS.out
          omega
        exact ⟨hw.cell e1 hne1, hw.cell (cell_block _ _ 0 _ _ _ HBA.out) hne, hw.cell (cell_block _ _ 1 _ _ _ HBA.out) hne, hw.cell (cell_block _ _ 2 _ _ _ HBA.out) hne, hw.cell g3 hne, hw.cell (hxr 0 _ rfl) hne2, hw.cell (hxr 1 _ rfl) hne2⟩
      clear ham hsa hx hxr
      go_wp2_with fail
      refine HA1.out.mono ?_
      rintro e w2 ⟨rfl, hw2⟩
      have hw2 := hw2.symm
      subst hw2
      clear HA1
      go_upto_region 6 with fail
      clear e1 g3
      have hKd : Kept (fun _ => False) w3 w3.drew := (Kept.refl _ _).drew
      refine wp_region_held_drew (S := fun w' => Kept (fun q => q = s + 2 ∨ q = s + 3) w3 w') (by kernel_rfl) ((Kept.refl _ _).drew) (fun hHeld => ?_)
      generalize w3.drew = wd at *
      iterate 7
        refine tkn (v := ?_) 0 rfl ?_ ?_; rotate_left 1
        · intro w hSw; obtain ⟨s0, s1, s2, s3, s4, s5, s6⟩ := HSM.out w hSw; go_simp; try with_reducible rfl
        try simp only [Act.put, tdy]
      obtain ⟨hx, hkx⟩ := set2 wd (s + 2) 64 _ _ (.int .i64 op) (.int .i64 ia) (box_kept hKd HC3.out (fun f => f))
      have hz := box_kept hkx (box_kept hKd HC4.out (fun f => f)) (fun e => by omega)
      obtain ⟨hx2, hkx2⟩ := set4 _ (s + 3) 56 _ _ _ _ (.int .i64 fa) (.int .i64 fl) (.int .i64 fr) (.slice (some ⟨gi, oi, none⟩) n cc) hz
      obtain ⟨d0, d1, f0, f1⟩ := look2 (box_kept hKd HC3.out (fun f => f))
      obtain ⟨t0, t1, t2, t3, u0, u1, u2, u3⟩ := look4 hz
      have HX1 := hid_of (box_kept hkx2 hx (fun e => by omega))
      have HX2 := hid_of hx2
      have hk1 : Kept (fun q => q = s + 2 ∨ q = s + 3) w3 _ := (hKd.mono (fun _ _ f => f.elim)).trans (hkx.mono (fun _ _ e => .inl e))
      have HKS2 := hid_of (hk1.trans (hkx2.mono (fun _ _ e => .inr e)))
      have HKS1 := hid_of hk1
      have HKX : Hid (Kept (fun _ => False) w _) := HK3.out.step HKS2.out (fun j hj e => by have := HGB.out; omega)
      clear hx hkx hz hx2 hkx2 hk1
      refine wpAnyH_ready (rs := [7]) (by kernel_rfl) (by simp) ?_
      refine AllReadyH.cons rfl (fun K hK => ?_) AllReadyH.nil
      go_simp
      refine hK.out _ _ HKS1.out (fun hHeld => ?_)
      clear hK K
      try simp only [Act.put, tdy]
      refine wpAnyH_ready (rs := [8]) (by kernel_rfl) (by simp) ?_
      refine AllReadyH.cons rfl (fun K hK => ?_) AllReadyH.nil
      go_simp
      refine hK.out _ _ HKS2.out (fun hHeld => ?_)
      clear hK K
      try simp only [Act.put, tdy]
      iterate 1
        refine tkn (v := ?_) 9 rfl ?_ ?_; rotate_left 1
        · intro w hSw; go_simp; try with_reducible rfl
        try simp only [Act.put, tdy]
      refine wpAnyH_done (by kernel_rfl) ?_ _
      go_wp2
      refine bodyPost_ret (v := .tuple #[.agg #[.int .i64 op, .int .i64 ia], .agg #[.int .i64 fa, .int .i64 fl, .int .i64 fr, .slice (some ⟨gi, oi, none⟩) n cc], .bool true]) ?_ rfl ⟨HKX.out, by
        rw [HID.out]
        refine ⟨some ⟨gi, oi, none⟩, cc, ?_, ?_⟩
        · rw [HFV.out.1, HFV.out.2.1, HFV.out.2.2, HN.out]
        · rw [← HN.out]
          exact HRI3.out.keptB HKS2.out (fun q hq _ e => by
            have h1 := HCL.out q hq (by rw [← HN.out]; omega)
            have h2 := HBS.out
            omega)⟩
      exact results_row2t (fn := Tryz.f46) (p := 4) (q := 5) (r := 6) (by rfl) _ _ (s + 2) (s + 3) 64 56 _ _ (0, 0) (0, 0) _ _ (by rfl) HX1.out Tryz.underlying64 rfl size64 (by rfl) HX2.out Tryz.underlying56 rfl size56
    · have ham : amg sa n = false := by rw [← Bool.not_eq_true, amg_iff]; exact hsa
      have HA1 := hid_of (among_any sa n w3)
      rw [ham] at HA1
      have HID : Hid (instrD p (i : Int) sa = none) := by unfold Hid; rw [HID0.out, if_neg hsa]
      clear hsa ham
      go_wp2_with fail
      refine HA1.out.mono ?_
      rintro e w2 ⟨rfl, hw2⟩
      have hw2 := hw2.symm
      subst hw2
      clear HA1
      obtain ⟨hx, hkx⟩ := set2 w3 (s + 2) 64 _ _ (.int .i64 0) (.int .i64 0) HC3.out
      have hz := box_kept hkx HC4.out (fun e => by omega)
      obtain ⟨hx2, hkx2⟩ := set4 _ (s + 3) 56 _ _ _ _ (.int .i64 0) (.int .i64 0) (.int .i64 0) (.slice none 0 0) hz
      obtain ⟨d0, d1, f0, f1⟩ := look2 HC3.out
      obtain ⟨t0, t1, t2, t3, u0, u1, u2, u3⟩ := look4 hz
      have HX1 := hid_of (box_kept hkx2 hx (fun e => by omega))
      have HX2 := hid_of hx2
      have HKX : Hid (Kept (fun _ => False) w _) := HK3.out.step (hkx.trans' hkx2) (fun j hj e => by have := HGB.out; omega)
      clear hx hkx hz hx2 hkx2
      go_wp2
      refine bodyPost_ret (v := .tuple #[.agg #[.int .i64 0, .int .i64 0], .agg #[.int .i64 0, .int .i64 0, .int .i64 0, .slice none 0 0], .bool false]) ?_ rfl ⟨HKX.out, by rw [HID.out]⟩
      exact results_row2t (fn := Tryz.f46) (p := 4) (q := 5) (r := 6) (by rfl) _ _ (s + 2) (s + 3) 64 56 _ _ (0, 0) (0, 0) _ _ (by rfl) HX1.out Tryz.underlying64 rfl size64 (by rfl) HX2.out Tryz.underlying56 rfl size56
  · have ham : amg sf nf = false := by rw [← Bool.not_eq_true, amg_iff]; exact hsf
    have HA1 := hid_of (among_any sf nf W)
    rw [ham] at HA1
    have HID : Hid (instrD p sf sa = none) := by unfold Hid instrD; rw [if_neg (by rw [← HNF.out]; exact hsf)]
    clear hsf ham
    go_wp2_with fail
    refine HA1.out.mono ?_
    rintro e w2 ⟨rfl, hw2⟩
    have hw2 := hw2.symm
    subst hw2
    clear HA1
    obtain ⟨hx, hkx⟩ := set2 W (s + 2) 64 _ _ (.int .i64 0) (.int .i64 0) HB3.out
    have hz := box_kept hkx HB4.out (fun e => by omega)
    obtain ⟨hx2, hkx2⟩ := set4 _ (s + 3) 56 _ _ _ _ (.int .i64 0) (.int .i64 0) (.int .i64 0) (.slice none 0 0) hz
    obtain ⟨d0, d1, f0, f1⟩ := look2 HB3.out
    obtain ⟨t0, t1, t2, t3, u0, u1, u2, u3⟩ := look4 hz
    have HX1 := hid_of (box_kept hkx2 hx (fun e => by omega))
    have HX2 := hid_of hx2
    have HKX : Hid (Kept (fun _ => False) w _) := HKW.out.step (hkx.trans' hkx2) (fun j hj e => by have := HGB.out; omega)
    clear hx hkx hz hx2 hkx2
    go_wp2
    refine bodyPost_ret (v := .tuple #[.agg #[.int .i64 0, .int .i64 0], .agg #[.int .i64 0, .int .i64 0, .int .i64 0, .slice none 0 0], .bool false]) ?_ rfl ⟨HKX.out, by rw [HID.out]⟩
    exact results_row2t (fn := Tryz.f46) (p := 4) (q := 5) (r := 6) (by rfl) _ _ (s + 2) (s + 3) 64 56 _ _ (0, 0) (0, 0) _ _ (by rfl) HX1.out Tryz.underlying64 rfl size64 (by rfl) HX2.out Tryz.underlying56 rfl size56
end Go.Proofs.YtcaadgcfceommaaGreat

namespace Go.Proofs.YtcaadgcfceommaaGreat
open Go.RowKit
set_option linter.unusedVariables false
set_option linter.unusedSimpArgs false
set_option maxRecDepth 100000

def takesD (p : PG) (sf sa : Int) : Int × Int := match instrD p sf sa with
  | none => (0, 0)
  | some (x, f) => tkgv p f x
theorem instrD_mem {p : PG} {sf sa : Int} {x : IN} {f : FN} (h : instrD p sf sa = some (x, f)) : f ∈ p.fns ∧ x ∈ f.code ∧ 0 ≤ sf ∧ sf < p.fns.length ∧ p.fns[sf.toNat]? = some f ∧ 0 ≤ sa ∧ sa < f.code.length ∧ f.code[sa.toNat]? = some x := by
  unfold instrD at h
  split at h
  · rename_i h1
    cases hf : p.fns[sf.toNat]? with
    | none => rw [hf] at h; cases h
    | some g =>
      rw [hf] at h
      simp only [Option.bind_some] at h
      split at h
      · rename_i h2
        cases hx : g.code[sa.toNat]? with
        | none => rw [hx] at h; cases h
        | some y =>
          rw [hx] at h
          cases h
          exact ⟨List.mem_of_getElem? hf, List.mem_of_getElem? hx, h1.1, h1.2, rfl, h2.1, h2.2, hx⟩
      · cases h
  · cases h
set_option maxHeartbeats 8000000 in
theorem ctakes_any (v : Value) (p : PG) (w : World) (B : Nat) (h : PgIs w B v p) (hB : B ≤ w.heap.size) (ho : p.Ok) (sf sa : Int) :
    Calls Tryz.prog 20 #[v, .agg #[.int .i64 sf, .int .i64 sa]] w fun e w' => e = .returned (.tuple #[.int .i64 (takesD p sf sa).1, .int .i64 (takesD p sf sa).2]) ∧ Kept (fun _ => False) w w' := by
  have hpg := h
  obtain ⟨dv, fv, rfl, hd, hdl, hf⟩ := h
  obtain ⟨dao, dc, rfl⟩ := hd.shape
  obtain ⟨fao, fc, rfl⟩ := hf.shape
  obtain ⟨nf, hnf⟩ : ∃ n, n = p.fns.length := ⟨_, rfl⟩
  obtain ⟨nd, hnd⟩ : ∃ n, n = p.data.length := ⟨_, rfl⟩
  obtain ⟨mem, hmem⟩ : ∃ n, n = p.mem := ⟨_, rfl⟩
  rw [← hnf, ← hnd, ← hmem] at hpg ⊢
  obtain ⟨s, hs⟩ : ∃ g, g = w.heap.size := ⟨_, rfl⟩
  obtain ⟨W, hW⟩ : ∃ W, W = (w.alloc (.cells #[.int .i64 mem, .slice dao nd dc, .slice fao nf fc] 25)).alloc (.cells #[.int .i64 sf, .int .i64 sa] 36) := ⟨_, rfl⟩
  obtain ⟨k1, x1, x2⟩ := allocs2 _ _ _ _ _ _ hW
  rw [← hs] at x1 x2
  have HKW := hid_of k1
  have HB1 := hid_of x1
  have HPG := hid_of hpg
  have HO := hid_of ho
  have HIN := hid_of (instr_any _ p W B (hpg.kept k1 (fun _ _ f => f)) (Nat.le_trans hB k1.size) sf sa)
  obtain ⟨c0, c1, c2, _⟩ := look3 x1
  obtain ⟨e0, e1, _⟩ := look2 x2
  clear x1 x2 k1 hd hdl hf hnf hnd hmem hpg ho hB
  go_enter Tryz.func20, Tryz.ntmps20
  go_upto_region 1 with fail
  rw [← hW, ← hs]
  clear hW hs
  go_wp2_with fail
  refine HIN.out.mono ?_
  rintro e w2 ⟨hk2, hm⟩
  clear HIN c0 c1 c2 e0 e1
  cases hi : instrD p sf sa with
  | none =>
    rw [hi] at hm
    subst hm
    have HT : Hid (takesD p sf sa = (0, 0)) := by unfold Hid takesD; rw [hi]
    have HKF := hid_of (((HKW.out.trans hk2).alloc (.cells #[.int .i64 0, .int .i64 0] 64)).alloc (.cells #[.int .i64 0, .int .i64 0, .int .i64 0, .slice none 0 0] 56))
    clear hk2 hi
    go_wp2
    refine bodyPost_ret (results_tmp2 (by rfl) _ _ _) rfl ⟨?_, HKF.out⟩
    rw [HT.out]
    rfl
  | some xf =>
    obtain ⟨x, f⟩ := xf
    rw [hi] at hm
    obtain ⟨cao, cc, rfl, hri⟩ := hm
    have hmem := instrD_mem hi
    have HT : Hid (takesD p sf sa = tkgv p f x) := by unfold Hid takesD; rw [hi]
    obtain ⟨w3, hw3⟩ : ∃ W, W = (w2.alloc (.cells #[.int .i64 x.op, .int .i64 x.a] 64)).alloc (.cells #[.int .i64 f.a, .int .i64 f.l, .int .i64 f.r, .slice cao f.code.length cc] 56) := ⟨_, rfl⟩
    obtain ⟨k3, y1, y2⟩ := allocs2 _ _ _ _ _ _ hw3
    have hkk := HKW.out.trans (hk2.trans k3)
    have HTK := hid_of (takes_any _ p f x cao cc w3 B (HPG.out.kept hkk (fun _ _ f => f)) ((HO.out.fns f hmem.1).code x hmem.2.1))
    obtain ⟨q0, q1, _⟩ := look2 y1
    obtain ⟨r0, r1, r2, r3, _⟩ := look4 y2
    obtain ⟨c0, c1, c2, _⟩ := look3 (box_kept (hk2.trans k3) HB1.out (fun f => f))
    have HK3 := hid_of hkk
    clear hi hmem hri hk2 k3 y1 y2 hkk
    unfold TkR at HTK
    generalize tkgv p f x = tk at *
    obtain ⟨t1, t2⟩ := tk
    generalize x.op = op at *
    generalize x.a = ia at *
    generalize f.a = fa at *
    generalize f.l = fl at *
    generalize f.r = fr at *
    generalize f.code.length = n at *
    go_upto_region 2 with fail
    rw [← hw3]
    clear hw3
    go_wp2_with fail
    refine HTK.out.mono ?_
    rintro e w4 ⟨rfl, hk4⟩
    have HKF := hid_of (HK3.out.trans hk4)
    clear hk4 HTK c0 c1 c2 q0 q1 r0 r1 r2 r3
    go_wp2
    refine bodyPost_ret (results_tmp2 (by rfl) _ _ _) rfl ⟨?_, HKF.out⟩
    rw [HT.out]
    rfl
end Go.Proofs.YtcaadgcfceommaaGreat

namespace Go.Proofs.YtcaadgcfceommaaGreat
open Go.RowKit
set_option linter.unusedVariables false
set_option linter.unusedSimpArgs false
set_option maxRecDepth 100000

/-- What Next's test reads. -/
def Box49 (w : World) (gx : Nat) (n : Nat) : Prop := ∃ fa fl fr cao cc, w.heap[gx]? = some (.cells #[.int .i64 fa, .int .i64 fl, .int .i64 fr, .slice cao n cc] 56 (0, 0))
theorem del49 (gx n : Nat) (x : Int) (w : World) (h : Box49 w gx n) : Calls Tryz.prog 49 #[.int .i64 x, .pointer (some ⟨gx, 0, none⟩)] w fun e w' => e = .returned (.bool (!amg x n)) ∧ w' = w := by
  obtain ⟨fa, fl, fr, cao, cc, hb⟩ := h
  have c3 := cell_block _ _ 3 _ _ _ hb
  have HA := hid_of (among_any x n w)
  clear hb
  generalize amg x n = r at *
  go_enter Tryz.func49, Tryz.ntmps49
  go_wp2_with fail
  refine HA.out.mono ?_
  rintro e w2 ⟨rfl, hw2⟩
  have hw2 := hw2.symm
  subst hw2
  clear HA c3
  go_wp2
  go_ret
  exact ⟨rfl, rfl⟩
/-- The first place that is to go. -/
def idx49 (n : Nat) (l : List Int) : Int := match l.findIdx? (fun x => !amg x n) with
  | some k => (k : Int)
  | none => -1
set_option maxHeartbeats 4000000 in
theorem index49 (v : Value) (l : List Int) (gx n : Nat) (w : World) (base : Nat) (h : OwnN w base v l) (hl : l.length ≤ 10000) (hx : Box49 w gx n) :
    Calls Tryz.prog 75 #[v, .func (.func 49) #[] #[.pointer (some ⟨gx, 0, none⟩)]] w fun e w' => e = .returned (.int .i64 (idx49 n l)) ∧ w' = w := by
  have HD := hid_of (fun x => del49 gx n x w hx)
  have HOW := hid_of h
  obtain ⟨ao, c, hv⟩ := ownsRow_shape h
  obtain ⟨m, hm⟩ : ∃ m, m = l.length := ⟨_, rfl⟩
  rw [← hm] at hv hl
  subst hv
  have HM := hid_of hm
  clear h hm hx
  go_enter Tryz.func75, Tryz.ntmps75
  go_wp2
  go_loopw [8] (fun iv wr => ∃ k : Nat, k ≤ m ∧ iv = .int .i64 (k : Int) ∧ wr = w ∧ Hid (∀ i, i < k → amg (l.getD i 0) n = true)) (fun iv _ => m - (intOf iv).toNat)
  case atStart => exact ⟨0, by omega, rfl, rfl, fun i hi => by omega⟩
  case round =>
    obtain ⟨k, hk, rfl, hwr, HT⟩ := hrel
    have hwr := hwr.symm
    subst hwr
    by_cases hlt : k < m
    · have hltI : (k : Int) < (m : Int) := by omega
      have hkl : k < l.length := by rw [← HM.out]; exact hlt
      obtain ⟨g, c', e1, hco⟩ := own_look HOW.out hkl
      simp only [Value.slice.injEq] at e1
      obtain ⟨rfl, hx8, rfl⟩ := e1
      clear hx8
      have HDX := hid_of (HD.out (l.getD k 0))
      cases hr : amg (l.getD k 0) n with
      | true =>
        rw [hr] at HDX
        have HT2 : Hid (∀ i, i < k + 1 → amg (l.getD i 0) n = true) := fun i hi => by
          by_cases hik : i < k
          · exact HT.out i hik
          · have : i = k := by omega
            subst this
            exact hr
        generalize l.getD k 0 = y at *
        clear hr
        go_wp2_with fail
        refine HDX.out.mono ?_
        rintro e w2 ⟨rfl, hw2⟩
        have hw2 := hw2.symm
        subst hw2
        clear HDX hco
        go_wp2
        go_roundw
        case rel => exact ⟨k + 1, by omega, by go_num, trivial, HT2⟩
        case measure => simp [intOf]; omega
      | false =>
        rw [hr] at HDX
        have HE : Hid (idx49 n l = (k : Int)) := by
          unfold Hid idx49
          have : l.findIdx? (fun x => !amg x n) = some k := by
            rw [List.findIdx?_eq_some_iff_getElem]
            refine ⟨hkl, ?_, fun j hj => ?_⟩
            · have : l[k] = l.getD k 0 := by simp [List.getD, List.getElem?_eq_getElem hkl]
              rw [this, hr]
              rfl
            · have h1 := HT.out j hj
              have : l[j] = l.getD j 0 := by simp [List.getD, List.getElem?_eq_getElem (show j < l.length by omega)]
              rw [this, h1]
              simp
          rw [this]
        generalize l.getD k 0 = y at *
        clear hr
        go_wp2_with fail
        refine HDX.out.mono ?_
        rintro e w2 ⟨rfl, hw2⟩
        have hw2 := hw2.symm
        subst hw2
        clear HDX hco
        go_wp2
        go_ret
        exact ⟨by rw [HE.out]; rfl, rfl⟩
    · have HE : Hid (idx49 n l = -1) := by
        unfold Hid idx49
        have : l.findIdx? (fun x => !amg x n) = none := by
          rw [List.findIdx?_eq_none_iff]
          intro x hx
          obtain ⟨i, hi, rfl⟩ := List.getElem_of_mem hx
          have h1 := HT.out i (by have := HM.out; omega)
          have : l[i] = l.getD i 0 := by simp [List.getD, List.getElem?_eq_getElem hi]
          rw [this, h1]
          rfl
        rw [this]
      go_wp2
      go_ret
      exact ⟨by rw [HE.out]; rfl, rfl⟩
end Go.Proofs.YtcaadgcfceommaaGreat

namespace Go.Proofs.YtcaadgcfceommaaGreat
open Go.RowKit
set_option linter.unusedVariables false
set_option linter.unusedSimpArgs false
set_option maxRecDepth 100000

theorem zeroN (n : Nat) : (Builtin.zeroCells (Value.int .i64 0).cells n).toList = List.replicate n (Value.int .i64 0) := by
  apply List.ext_getElem?
  intro i
  by_cases hi : i < n
  · simp [Builtin.zeroCells, Value.cells, List.getElem?_replicate, Nat.mod_one, hi]
  · simp [Builtin.zeroCells, Value.cells, List.getElem?_replicate, Nat.mod_one, hi]
theorem own_clear {W : World} {base g c m : Nat} {cur : List Int} (h : OwnN W base (.slice (some ⟨g, 0, none⟩) m c) cur) (i k : Nat) (hi : i + (k + 1) = m) (ty : TypeId) :
    ∃ w', (Builtin.clear_ #[30] ty #[.slice (some ⟨g, i, none⟩) (k + 1) (c - i)]).run Tryz.prog W = .ok (.tuple #[]) w' ∧ OwnN w' base (.slice (some ⟨g, 0, none⟩) i c) (cur.take i) ∧ Kept (fun q => q = g) W w' := by
  obtain ⟨ao, c', e⟩ := ownsRow_shape h
  simp only [Value.slice.injEq] at e
  obtain ⟨_, hml, _⟩ := e
  rcases h.2 with ⟨e, _⟩ | ⟨g', cap, arr, e, hb, hg, h1, h2, h3, h4⟩
  · cases e
  · simp only [Value.slice.injEq, Option.some.injEq, Addr.mk.injEq] at e
    obtain ⟨⟨rfl, _⟩, hm2, rfl⟩ := e
    have hst := run_storeCells_at Tryz.prog g i 3 (List.replicate (k + 1) (Value.int .i64 0)) 0 arr W hg (by simp; omega) (fun u hu => by rw [List.eq_of_mem_replicate hu]; rfl)
    simp only [Nat.add_zero, List.length_replicate] at hst
    refine ⟨W.setRow g (arr.toList.take i ++ List.replicate (k + 1) (Value.int .i64 0) ++ arr.toList.drop (i + (k + 1))).toArray, ?_, ⟨?_, .inr ⟨g, c, _, ?_, hb, setRow_heap W g _ _ 3 (0, 0) hg, ?_, h2, ?_, ?_⟩⟩, kept_row W g _⟩
    · simp [Builtin.clear_, run_underlying Tryz.underlying30, Tryz.zeroValue3, zeroN, hst]
    · simp [ints]
    · rw [List.length_take, ← hml, show min i m = i by omega]
    · rw [List.length_take]
      omega
    · simp
      omega
    · rw [List.length_take, ← hml, show min i m = i by omega]
      have h5 : arr.toList.take i = (ints cur).take i := by
        rw [← h4, List.take_take, ← hml, show min i (m * 1) = i by omega]
      simp only [Nat.mul_one]
      rw [List.append_assoc, List.take_append_of_le_length (by simp; omega), List.take_take, Nat.min_self, h5]
      simp [ints, List.map_take]
theorem idx_cases (n : Nat) (l : List Int) : (idx49 n l = -1 ∧ l.filter (fun x => amg x n) = l) ∨ ∃ k : Nat, idx49 n l = (k : Int) ∧ k < l.length ∧ l.take k = (l.take (k + 1)).filter (fun x => amg x n) := by
  unfold idx49
  cases h : l.findIdx? (fun x => !amg x n) with
  | none =>
    left
    refine ⟨rfl, List.filter_eq_self.2 (fun x hx => ?_)⟩
    have := List.findIdx?_eq_none_iff.1 h x hx
    simpa using this
  | some k =>
    right
    obtain ⟨hk, h1, h2⟩ := List.findIdx?_eq_some_iff_getElem.1 h
    refine ⟨k, rfl, hk, ?_⟩
    rw [List.take_add_one, List.filter_append, List.getElem?_eq_getElem hk]
    have e1 : (l.take k).filter (fun x => amg x n) = l.take k := List.filter_eq_self.2 (fun x hx => by
      obtain ⟨i, hi, rfl⟩ := List.getElem_of_mem hx
      rw [List.length_take] at hi
      have := h2 i (by omega)
      simpa using this)
    have e2 : amg l[k] n = false := by simpa using h1
    rw [e1]
    simp [List.filter_cons, e2]
/-- While the row is gone through. -/
structure Del (l cur : List Int) (n i j : Nat) : Prop where
  len : cur.length = l.length
  lt : i < j
  le : j ≤ l.length
  tk : cur.take i = (l.take j).filter (fun x => amg x n)
  dr : cur.drop j = l.drop j
theorem Del.get {l cur : List Int} {n i j : Nat} (h : Del l cur n i j) (hj : j < l.length) : cur.getD j 0 = l.getD j 0 := by
  have h1 : (cur.drop j)[0]? = (l.drop j)[0]? := by rw [h.dr]
  simp only [List.getElem?_drop, Nat.add_zero] at h1
  simp [List.getD, h1]
theorem Del.keep {l cur : List Int} {n i j : Nat} (h : Del l cur n i j) (hj : j < l.length) (hk : amg (l.getD j 0) n = true) : Del l (cur.set i (l.getD j 0)) n (i + 1) (j + 1) := by
  have hi : i < cur.length := by rw [h.len]; have := h.lt; omega
  refine ⟨by simp [h.len], by have := h.lt; omega, by omega, ?_, ?_⟩
  · rw [List.take_add_one, List.take_set_of_le (Nat.le_refl i), h.tk, List.take_add_one, List.filter_append, List.getElem?_eq_getElem hj]
    congr 1
    have : l[j] = l.getD j 0 := by simp [List.getD, List.getElem?_eq_getElem hj]
    rw [← this] at hk ⊢
    simp [hi, List.filter_cons, hk]
  · rw [List.drop_set_of_lt (by have := h.lt; omega)]
    have h1 := congrArg (List.drop 1) h.dr
    simpa [List.drop_drop] using h1
theorem Del.drop {l cur : List Int} {n i j : Nat} (h : Del l cur n i j) (hj : j < l.length) (hk : amg (l.getD j 0) n = false) : Del l cur n i (j + 1) := by
  refine ⟨h.len, by have := h.lt; omega, by omega, ?_, ?_⟩
  · rw [h.tk, List.take_add_one, List.filter_append, List.getElem?_eq_getElem hj]
    have : l[j] = l.getD j 0 := by simp [List.getD, List.getElem?_eq_getElem hj]
    rw [← this] at hk
    simp [List.filter_cons, hk]
  · have h1 := congrArg (List.drop 1) h.dr
    simpa [List.drop_drop] using h1
set_option maxHeartbeats 4000000 in
theorem delete49 (v : Value) (l : List Int) (gx n : Nat) (w : World) (base : Nat) (h : OwnN w base v l) (hl : l.length ≤ 10000) (hx : Box49 w gx n) :
    Calls Tryz.prog 47 #[v, .func (.func 49) #[] #[.pointer (some ⟨gx, 0, none⟩)]] w fun e w' => ∃ v', e = .returned v' ∧ OwnN w' base v' (l.filter (fun x => amg x n)) ∧ Kept (fun q => v.ownBlock = some q) w w' := by
  have HIX := hid_of (index49 v l gx n w base h hl hx)
  have HOW := hid_of h
  have HBX := hid_of hx
  obtain ⟨ao, c, hv⟩ := ownsRow_shape h
  obtain ⟨m, hm⟩ : ∃ m, m = l.length := ⟨_, rfl⟩
  rw [← hm] at hv hl
  subst hv
  have HM := hid_of hm
  clear h hx
  rcases idx_cases n l with ⟨hi, hf⟩ | ⟨k, hi, hk, hf⟩
  · rw [hi] at HIX
    have HF := hid_of hf
    clear hi hf hm
    go_enter Tryz.func47, Tryz.ntmps47
    go_wp2_with fail
    refine HIX.out.mono ?_
    rintro e w2 ⟨rfl, hw2⟩
    have hw2 := hw2.symm
    subst hw2
    clear HIX
    go_wp2
    go_ret
    exact ⟨_, rfl, by rw [HF.out]; exact HOW.out, Kept.refl _ _⟩
  · rw [hi] at HIX
    obtain ⟨g, c', e1, _⟩ := own_look HOW.out hk
    simp only [Value.slice.injEq] at e1
    obtain ⟨rfl, hx8, rfl⟩ := e1
    have hkm : k < m := by omega
    have HD0 : Hid (Del l l n k (k + 1)) := ⟨rfl, by omega, by omega, hf, rfl⟩
    have HK0 := hid_of (Kept.refl (fun q => q = g) w)
    clear hi hf hx8 hm hk
    go_enter Tryz.func47, Tryz.ntmps47
    go_wp2_with fail
    refine HIX.out.mono ?_
    rintro e w2 ⟨rfl, hw2⟩
    have hw2 := hw2.symm
    subst hw2
    clear HIX
    have hkb : ((k : Int) == -1) = false := by simp
    go_wp2
    go_loopw [5, 6] (fun iv jv wr => ∃ (i j : Nat) (cur : List Int), i < j ∧ j ≤ m ∧ iv = .int .i64 (i : Int) ∧ jv = .int .i64 (j : Int) ∧ Hid (Del l cur n i j) ∧ Hid (OwnN wr base (.slice (some ⟨g, 0, none⟩) m c) cur) ∧ Hid (Kept (fun q => q = g) w wr)) (fun _ jv _ => m - (intOf jv).toNat)
    case atStart => exact ⟨k, k + 1, l, by omega, by omega, rfl, by go_num, HD0, HOW, HK0⟩
    case round =>
      clear HD0 HK0 hkb hkm
      obtain ⟨i, j, cur, hij, hjm, rfl, rfl, HDL, HOC, HK⟩ := hrel
      by_cases hlt : j < m
      · have hltI : (j : Int) < (m : Int) := by omega
        have hjl : j < l.length := by rw [← HM.out]; exact hlt
        have hil : i < cur.length := by rw [HDL.out.len]; omega
        have hiI : (i : Int) < (m : Int) := by omega
        obtain ⟨g2, c2, e2, hcj⟩ := own_look HOC.out (i := j) (by rw [HDL.out.len]; exact hjl)
        simp only [Value.slice.injEq, Option.some.injEq, Addr.mk.injEq] at e2
        obtain ⟨⟨rfl, hz1⟩, hz2, rfl⟩ := e2
        clear hz1 hz2
        obtain ⟨g3, c3, e3, hci⟩ := own_look HOC.out hil
        simp only [Value.slice.injEq, Option.some.injEq, Addr.mk.injEq] at e3
        obtain ⟨⟨rfl, hz1⟩, hz2, rfl⟩ := e3
        clear hz1 hz2
        have hfi := own_frz HOC.out i
        rw [HDL.out.get hjl] at hcj
        have hbx : Box49 wr gx n := by
          obtain ⟨fa, fl, fr, cao, cc, hb⟩ := HBX.out
          exact ⟨fa, fl, fr, cao, cc, box_kept HK.out hb (fun (e : gx = g) => own_box2 HOW.out hb (by decide) (by rw [e]; rfl))⟩
        have HDX := hid_of (del49 gx n (l.getD j 0) wr hbx)
        cases hr : amg (l.getD j 0) n with
        | true =>
          rw [hr] at HDX
          have HDN := hid_of (HDL.out.keep hjl hr)
          have HON : Hid (OwnN (wr.setCell ⟨g, i, none⟩ (.int .i64 (l.getD j 0))) base (.slice (some ⟨g, 0, none⟩) m c) (cur.set i (l.getD j 0))) := by
            have hml : m = cur.length := by rw [HDL.out.len]; exact HM.out
            have hoc := HOC.out
            subst hml
            unfold Hid OwnN
            rw [show ints (cur.set i (l.getD j 0)) = (ints cur).set i (.int .i64 (l.getD j 0)) by simp [ints, List.map_set], List.length_set]
            exact (World.ownsRow.stored hoc i (.int .i64 (l.getD j 0))).1
          have HKN := hid_of (HK.out.trans (kept_set wr g i (.int .i64 (l.getD j 0))))
          generalize l.getD j 0 = y at *
          generalize cur.getD i 0 = z at *
          clear hr hbx hjl hil
          go_wp2_with fail
          refine HDX.out.mono ?_
          rintro e w2 ⟨rfl, hw2⟩
          have hw2 := hw2.symm
          subst hw2
          clear HDX hcj
          go_wp2
          go_roundw
          case rel => exact ⟨i + 1, j + 1, _, by omega, by omega, by go_num, by go_num, HDN, HON, HKN⟩
          case measure => simp [intOf]; omega
        | false =>
          rw [hr] at HDX
          have HDN := hid_of (HDL.out.drop hjl hr)
          generalize l.getD j 0 = y at *
          clear hr hbx hjl hil hci hfi
          go_wp2_with fail
          refine HDX.out.mono ?_
          rintro e w2 ⟨rfl, hw2⟩
          have hw2 := hw2.symm
          subst hw2
          clear HDX hcj
          go_wp2
          go_roundw
          case rel => exact ⟨i, j + 1, _, by omega, by omega, rfl, by go_num, HDN, HOC, HK⟩
          case measure => simp [intOf]; omega
      · have e : j = m := by omega
        subst e
        obtain ⟨k2, hk2⟩ : ∃ k2, i + (k2 + 1) = j := ⟨j - i - 1, by omega⟩
        obtain ⟨w', hcr, hoc, hkc⟩ := own_clear HOC.out i k2 hk2 0
        have HO' : Hid (OwnN w' base (.slice (some ⟨g, 0, none⟩) i c) (l.filter (fun x => amg x n))) := by
          have h1 := HDL.out.tk
          rw [List.take_of_length_le (l := l) (by rw [← HM.out]; omega)] at h1
          rw [h1] at hoc
          exact hoc
        have HK' : Hid (Kept (fun q => (Value.slice (some ⟨g, 0, none⟩) j c).ownBlock = some q) w w') := (HK.out.trans hkc).mono (fun q _ e => by rw [e]; rfl)
        have hle : j ≤ c := by
          rcases HOC.out.2 with ⟨e, _⟩ | ⟨g', cap, arr, e, _, _, h1, _⟩
          · cases e
          · simp only [Value.slice.injEq] at e
            obtain ⟨_, h3, rfl⟩ := e
            omega
        have hji : j - i = k2 + 1 := by omega
        have hiJ : (i : Int) ≤ (j : Int) := by omega
        have hiC : (i : Int) ≤ (c : Int) := by omega
        have hjC : (j : Int) ≤ (c : Int) := by omega
        have hic : i ≤ c := by omega
        clear hoc hkc HDL HK HOC hk2
        go_wp2
        go_ret
        exact ⟨_, rfl, HO'.out, HK'.out⟩
end Go.Proofs.YtcaadgcfceommaaGreat

namespace Go.Proofs.YtcaadgcfceommaaGreat
open Go.RowKit
set_option linter.unusedVariables false
set_option linter.unusedSimpArgs false
set_option maxRecDepth 100000

def nextD (p : PG) (sf sa : Int) : List Int := match instrD p sf sa with
  | none => []
  | some (x, f) => (wayL x sa).filter (fun y => amg y f.code.length)
theorem way_len (x : IN) (a : Int) : (wayL x a).length ≤ 2 := by
  unfold wayL
  split
  · simp
  · split
    · simp
    · split
      · split
        · simp
        · split <;> simp
      · simp
set_option maxHeartbeats 8000000 in
theorem cnext_any (v : Value) (p : PG) (w : World) (B : Nat) (h : PgIs w B v p) (hB : B ≤ w.heap.size) (ho : p.Ok) (sf sa : Int) :
    Calls Tryz.prog 17 #[v, .agg #[.int .i64 sf, .int .i64 sa]] w fun e w' => ∃ v', e = .returned v' ∧ OwnN w' w.heap.size v' (nextD p sf sa) ∧ Kept (fun _ => False) w w' := by
  have hpg := h
  obtain ⟨dv, fv, rfl, hd, hdl, hf⟩ := h
  obtain ⟨dao, dc, rfl⟩ := hd.shape
  obtain ⟨fao, fc, rfl⟩ := hf.shape
  obtain ⟨nf, hnf⟩ : ∃ n, n = p.fns.length := ⟨_, rfl⟩
  obtain ⟨nd, hnd⟩ : ∃ n, n = p.data.length := ⟨_, rfl⟩
  obtain ⟨mem, hmem⟩ : ∃ n, n = p.mem := ⟨_, rfl⟩
  rw [← hnf, ← hnd, ← hmem] at hpg ⊢
  obtain ⟨s, hs⟩ : ∃ g, g = w.heap.size := ⟨_, rfl⟩
  obtain ⟨W, hW⟩ : ∃ W, W = (w.alloc (.cells #[.int .i64 mem, .slice dao nd dc, .slice fao nf fc] 25)).alloc (.cells #[.int .i64 sf, .int .i64 sa] 36) := ⟨_, rfl⟩
  obtain ⟨k1, x1, x2⟩ := allocs2 _ _ _ _ _ _ hW
  rw [← hs] at x1 x2
  have HKW := hid_of k1
  have HB2 := hid_of x2
  have HO := hid_of ho
  have HIN := hid_of (instr_any _ p W B (hpg.kept k1 (fun _ _ f => f)) (Nat.le_trans hB k1.size) sf sa)
  obtain ⟨c0, c1, c2, _⟩ := look3 x1
  obtain ⟨e0, e1, _⟩ := look2 x2
  have HGB := hid_of hs
  clear x1 x2 k1 hd hdl hf hnf hnd hmem hpg ho hB
  go_enter Tryz.func17, Tryz.ntmps17
  go_upto_region 1 with fail
  rw [← hW, ← hs]
  clear hW hs
  go_wp2_with fail
  refine HIN.out.mono ?_
  rintro e w2 ⟨hk2, hm⟩
  clear HIN c0 c1 c2 e0 e1
  cases hi : instrD p sf sa with
  | none =>
    rw [hi] at hm
    subst hm
    have HT : Hid (nextD p sf sa = []) := by unfold Hid nextD; rw [hi]
    have HKF := hid_of (((HKW.out.trans hk2).alloc (.cells #[.int .i64 0, .int .i64 0] 64)).alloc (.cells #[.int .i64 0, .int .i64 0, .int .i64 0, .slice none 0 0] 56))
    clear hk2 hi
    go_wp2
    go_ret
    exact ⟨_, rfl, by rw [HT.out]; exact World.ownsRow_nil _ _ _ _, HKF.out⟩
  | some xf =>
    obtain ⟨x, f⟩ := xf
    rw [hi] at hm
    obtain ⟨cao, cc, rfl, hri⟩ := hm
    have hmem := instrD_mem hi
    have HT : Hid (nextD p sf sa = (wayL x sa).filter (fun y => amg y f.code.length)) := by unfold Hid nextD; rw [hi]
    obtain ⟨w3, hw3⟩ : ∃ W, W = (w2.alloc (.cells #[.int .i64 x.op, .int .i64 x.a] 64)).alloc (.cells #[.int .i64 f.a, .int .i64 f.l, .int .i64 f.r, .slice cao f.code.length cc] 56) := ⟨_, rfl⟩
    obtain ⟨k3, y1, y2⟩ := allocs2 _ _ _ _ _ _ hw3
    have hkk := HKW.out.trans (hk2.trans k3)
    have hfl := (HO.out.fns f hmem.1).len
    have HGO := hid_of (goes_any x sa w3 hmem.2.2.2.2.2.1 (by have := hmem.2.2.2.2.2.2.1; omega))
    obtain ⟨q0, q1, _⟩ := look2 y1
    obtain ⟨_, e1, _⟩ := look2 (box_kept (hk2.trans k3) HB2.out (fun f => f))
    have HK3 := hid_of hkk
    have HY2 := hid_of y2
    have HWL := hid_of (way_len x sa)
    clear hi hmem hri hk2 k3 y1 y2 hkk hfl
    unfold WayR at HGO
    generalize wayL x sa = wl at *
    generalize x.op = op at *
    generalize x.a = ia at *
    generalize f.a = fa at *
    generalize f.l = fl at *
    generalize f.r = fr at *
    generalize f.code.length = n at *
    go_upto_region 2 with fail
    rw [← hw3]
    clear hw3
    generalize w2.heap.size + 1 = gx at *
    go_wp2_with fail
    refine HGO.out.mono ?_
    rintro e w4 ⟨v4, rfl, ho4, hk4⟩
    have HDE := hid_of (delete49 v4 wl gx n w4 w3.heap.size ho4 (by have := HWL.out; omega) ⟨_, _, _, _, _, box_kept hk4 HY2.out (fun f => f)⟩)
    have HK4 := hid_of (HK3.out.trans hk4)
    have HO4 := hid_of ho4
    obtain ⟨vao, vc, hv4⟩ := ownsRow_shape ho4
    generalize wl.length = wn at hv4
    subst hv4
    clear ho4 hk4 HGO q0 q1 e1
    go_wp2_with fail
    refine HDE.out.mono ?_
    rintro e w5 ⟨v5, rfl, ho5, hk5⟩
    have HO5 := hid_of (own_mono ho5 HK3.out.size)
    have HK5 : Hid (Kept (fun _ => False) w w5) := HK4.out.step hk5 (fun i hi e => by have h1 := (HO4.out.lt i e).1; have h2 := HK3.out.size; omega)
    obtain ⟨vao5, vc5, hv5⟩ := ownsRow_shape ho5
    generalize (wl.filter (fun y => amg y n)).length = wn5 at hv5
    subst hv5
    clear ho5 hk5 HDE
    go_wp2
    go_ret
    exact ⟨_, rfl, by rw [HT.out]; exact HO5.out, HK5.out⟩
end Go.Proofs.YtcaadgcfceommaaGreat

import Derived.Test.YtcaadgcfceommaaGreatTJq
import Derived.Test.YtcaadgcfceommaaGreatTJb
namespace Go.Proofs.YtcaadgcfceommaaGreat
open Go.RowKit
set_option linter.unusedVariables false
set_option linter.unusedSimpArgs false
set_option maxRecDepth 100000
theorem check_ok (p : PG) (hck : checkP p = 0) : (1 ≤ p.fns.length ∧ p.fns.length ≤ 64) ∧ PosA p ∧ ∀ f ∈ p.fns, 1 ≤ f.code.length := by
 unfold checkP at hck
 rcases bad_cases p with ⟨_, hb⟩ | ⟨hb, hb2⟩
 ·rw [if_pos hb] at hck
  cases hck
 ·rw [if_neg (by rw [hb2]; decide)] at hck
  have key : ∀ f ∈ p.fns, 1 ≤ f.code.length ∧ ∀ x ∈ f.code, errI x = 0 := fun f hf => by
   have he := firstF_z _ hck f hf
   rcases badF_cases f with ⟨_, h2⟩ | ⟨h1, h2⟩
   ·rw [h2] at he
    cases he
   ·rw [h2] at he
    unfold encE at he
    rw [if_neg (by omega)] at he
    exact ⟨by omega, firstBad_z _ he⟩
  exact ⟨by omega, fun f hf x hx ho => pos_err ((key f hf).2 x hx) ho, fun f hf => (key f hf).1⟩
theorem six_one (a b c d e f : Value) (ha : a.oneCell' = true) (hb : b.oneCell' = true) (hc : c.oneCell' = true) (hd : d.oneCell' = true) (he : e.oneCell' = true) (hf : f.oneCell' = true) : #[a, b, c, d, e, f].all (·.oneCell') = true := by
 rw [Array.all_eq_true_iff_forall_mem]
 intro v hv
 simp at hv
 rcases hv with rfl | rfl | rfl | rfl | rfl | rfl <;> assumption
structure L4 (wA w : World) (nf gC gT gI gW : Nat) : Prop where
 kept : KF wA w
 c : w.heap[gC]? = some (.cells (zint nf) 3 (0, 0))
 t : w.heap[gT]? = some (.cells (zint nf) 3 (0, 0))
 i : w.heap[gI]? = some (.cells (zbool nf) 4 (0, 0))
 ww : w.heap[gW]? = some (.cells (zbool nf) 4 (0, 0))
 ap : gC ≠ gT ∧ gI ≠ gW
 lo : wA.heap.size ≤ gC ∧ wA.heap.size ≤ gT ∧ wA.heap.size ≤ gI ∧ wA.heap.size ≤ gW
theorem leaf_cut {X : Prop} (H M : World → Nat → Nat → Nat → Nat → Prop) (h : ∀ w c t i g, H w c t i g → M w c t i g) (k : (∀ w c t i g, H w c t i g → M w c t i g) → X) : X := k h
theorem al4 (w : World) (C : Array Value) (t : TypeId) : ∃ w' g, w' = w.alloc (.cells C t) ∧ g = w.heap.size ∧ KF w w' ∧ w'.heap[g]? = some (.cells C t (0, 0)) ∧ g < w'.heap.size ∧ w.heap.size ≤ g := ⟨_, _, rfl, rfl, (Kept.refl _ _).alloc _, heap_alloc_new w _, by simp, Nat.le_refl _⟩
theorem built88 (mem : Int) (dao : Option Addr) (nd dc pg po nf fc hg hc tg tc lg lc gl gC gT gI gW : Nat) : Tryz.prog.built 88 [(0, .agg #[.int .i64 mem, .slice dao nd dc, .slice (some ⟨pg, po, none⟩) nf fc]), (1, .agg #[.slice (some ⟨hg, 0, none⟩) nf hc, .slice (some ⟨tg, 0, none⟩) nf tc, .slice (some ⟨lg, 0, none⟩) nf lc, .slice (some ⟨gl, 0, none⟩) nf nf, .int .i64 0, .int .i64 0]), (2, .slice (some ⟨gC, 0, none⟩) nf nf), (3, .slice (some ⟨gT, 0, none⟩) nf nf), (4, .slice (some ⟨gI, 0, none⟩) nf nf), (5, .slice (some ⟨gW, 0, none⟩) nf nf)] = some #[.int .i64 mem, .slice dao nd dc, .slice (some ⟨pg, po, none⟩) nf fc, .slice (some ⟨hg, 0, none⟩) nf hc, .slice (some ⟨tg, 0, none⟩) nf tc, .slice (some ⟨lg, 0, none⟩) nf lc, .slice (some ⟨gl, 0, none⟩) nf nf, .int .i64 0, .int .i64 0, .slice (some ⟨gC, 0, none⟩) nf nf, .slice (some ⟨gT, 0, none⟩) nf nf, .slice (some ⟨gI, 0, none⟩) nf nf, .slice (some ⟨gW, 0, none⟩) nf nf] := by kernel_rfl
theorem exec88 (ev : Operand → Value) (oi : Oper) (w : World) (mem : Int) (dao : Option Addr) (nd dc pg po nf fc hg hc tg tc lg lc gl gC gT gI gW : Nat) (o0 o1 o2 o3 o4 o5 : Operand) (ho : oi.op = .build 88 #[(0, o0), (1, o1), (2, o2), (3, o3), (4, o4), (5, o5)]) (h0 : ev o0 = .agg #[.int .i64 mem, .slice dao nd dc, .slice (some ⟨pg, po, none⟩) nf fc]) (h1 : ev o1 = .agg #[.slice (some ⟨hg, 0, none⟩) nf hc, .slice (some ⟨tg, 0, none⟩) nf tc, .slice (some ⟨lg, 0, none⟩) nf lc, .slice (some ⟨gl, 0, none⟩) nf nf, .int .i64 0, .int .i64 0]) (h2 : ev o2 = .slice (some ⟨gC, 0, none⟩) nf nf) (h3 : ev o3 = .slice (some ⟨gT, 0, none⟩) nf nf) (h4 : ev o4 = .slice (some ⟨gI, 0, none⟩) nf nf) (h5 : ev o5 = .slice (some ⟨gW, 0, none⟩) nf nf) :
  Sem.run Tryz.prog (execOp ev oi) w = Result.ok (Next.value (.agg #[.int .i64 mem, .slice dao nd dc, .slice (some ⟨pg, po, none⟩) nf fc, .slice (some ⟨hg, 0, none⟩) nf hc, .slice (some ⟨tg, 0, none⟩) nf tc, .slice (some ⟨lg, 0, none⟩) nf lc, .slice (some ⟨gl, 0, none⟩) nf nf, .int .i64 0, .int .i64 0, .slice (some ⟨gC, 0, none⟩) nf nf, .slice (some ⟨gT, 0, none⟩) nf nf, .slice (some ⟨gI, 0, none⟩) nf nf, .slice (some ⟨gW, 0, none⟩) nf nf])) w := by
 have hr := run_build w 88 #[(0, .agg #[.int .i64 mem, .slice dao nd dc, .slice (some ⟨pg, po, none⟩) nf fc]), (1, .agg #[.slice (some ⟨hg, 0, none⟩) nf hc, .slice (some ⟨tg, 0, none⟩) nf tc, .slice (some ⟨lg, 0, none⟩) nf lc, .slice (some ⟨gl, 0, none⟩) nf nf, .int .i64 0, .int .i64 0]), (2, .slice (some ⟨gC, 0, none⟩) nf nf), (3, .slice (some ⟨gT, 0, none⟩) nf nf), (4, .slice (some ⟨gI, 0, none⟩) nf nf), (5, .slice (some ⟨gW, 0, none⟩) nf nf)] _ (built88 mem dao nd dc pg po nf fc hg hc tg tc lg lc gl gC gT gI gW)
 unfold execOp
 simp only [ho, List.map_toArray, List.map_cons, List.map_nil, h0, h1, h2, h3, h4, h5, Sem.run_bind, hr, Result.andThen_ok, Sem.run_pure]
set_option maxHeartbeats 80000000 in
theorem rrun_any (v : Value) (p : PG) (w : World) (B : Nat) (h : PgIs w B v p) (hB : B ≤ w.heap.size) (ho : p.Ok) :
  Calls Tryz.prog 14 #[v] w (RunR p p.fns.length w) := by
 have HPG := hid_of h
 obtain ⟨dv, fv, rfl, hd, hdl, hf⟩ := h
 obtain ⟨dao, dc, rfl⟩ := hd.shape
 obtain ⟨fao, fc, rfl⟩ := hf.shape
 obtain ⟨nf, hnf⟩ := nmd (p.fns.length)
 obtain ⟨nd, hnd⟩ := nmd (p.data.length)
 obtain ⟨mem, hmem⟩ := nmd (p.mem)
 rw [← hnf, ← hnd, ← hmem] at HPG ⊢
 rw [← hnf] at hf
 obtain ⟨s, hs⟩ := nmd (w.heap.size)
 obtain ⟨W, hW⟩ := nmd (((w.alloc (.cells #[.int .i64 mem, .slice dao nd dc, .slice fao nf fc] 25)).alloc (.cells #[.slice none 0 0, .slice none 0 0, .slice none 0 0, .slice none 0 0, .int .i64 0, .int .i64 0] 33)).alloc (.cells #[.int .i64 0, .int .i64 0, .int .i64 0] 38))
 obtain ⟨hkW, hb1, hb2, hb3⟩ := allocs3 _ _ _ _ _ _ _ _ hW
 rw [← hs] at hb1 hb2 hb3
 have HSZ : Hid (W.heap.size = s + 3) := by unfold Hid; rw [hW, hs]; simp
 have HKW := hid_of hkW
 have HB1 := hid_of hb1
 have HB2 := hid_of hb2
 have HB3 := hid_of hb3
 have HGB := hid_of hs
 have HNF := hid_of hnf
 have HO := hid_of ho
 have HBB := hid_of hB
 have HFR := hid_of hf
 have c0 := cell_block _ _ 0 _ _ _ hb1
 have c1 := cell_block _ _ 1 _ _ _ hb1
 have c2 := cell_block _ _ 2 _ _ _ hb1
 have HPW : Hid (∀ w', KF W w' → PgIs w' B (.agg #[.int .i64 mem, .slice dao nd dc, .slice fao nf fc]) p ∧ B ≤ w'.heap.size) := fun w' hw => ⟨HPG.out.kept (HKW.out.trans hw) (fun _ _ f => f), Nat.le_trans HBB.out (HKW.out.trans hw).size⟩
 have HCK1 := hid_of (rcheck_any _ p W B (HPW.out W (Kept.refl _ _)).1 (HPW.out W (Kept.refl _ _)).2 ho)
 obtain ⟨ce, hce⟩ := nmd (checkP p)
 rw [← hce] at HCK1
 have HCE := hid_of hce
 clear hb1 hb2 hb3 hkW hd hdl hf hnf hnd hmem ho hB hce
 go_enter Tryz.func14, Tryz.ntmps14
 go_upto_region 1 with fail
 rw [← hW, ← hs]
 clear hW hs
 go_wp2_with fail
 refine HCK1.out.mono ?_
 rintro e w1 ⟨rfl, hk1⟩
 have HK1 := hid_of hk1
 have HC1 := hid_of (box_kept hk1 HB1.out id)
 have HC2 := hid_of (box_kept hk1 HB2.out id)
 have HC3 := hid_of (box_kept hk1 HB3.out id)
 clear hk1 HCK1 c0 c1 c2
 by_cases hcz : ce = 0
 ·subst hcz
  obtain ⟨hn64', hpos, hcl⟩ := check_ok p HCE.out.symm
  have hn64 : 1 ≤ nf ∧ nf ≤ 64 := by rw [HNF.out]; exact hn64'
  have HPOS := hid_of hpos
  have hn1 := hn64.1
  have hn4 := hn64.2
  have h0p : 0 < p.fns.length := by omega
  have hf0 := List.getElem?_eq_getElem h0p
  generalize p.fns[0] = f0 at hf0
  have hhd : p.fns.head? = some f0 := by rw [List.head?_eq_getElem?]; exact hf0
  obtain ⟨pg, po, cg, co, cc, rfl, y0, y1, y2, y3, hri, hpgB, hcgB⟩ := row_instr HFR.out hf0 (List.getElem?_eq_getElem (show 0 < f0.code.length by have := hcl f0 (List.mem_of_getElem? hf0); omega))
  have x0 := (HKW.out.trans HK1.out).cell y0 id
  have x2 := (HKW.out.trans HK1.out).cell y2 id
  rw [Nat.zero_mul, Nat.add_zero] at x0 x2
  obtain ⟨fa, hfa⟩ := nmd (f0.a)
  obtain ⟨fr, hfr⟩ := nmd (f0.r)
  rw [← hfa] at x0
  rw [← hfr] at x2
  have HPL : Hid (plainD p = if fa ≠ 0 ∨ fr ≠ 1 then (139, 0, 0) else shapesD p) := by
   unfold Hid plainD
   rw [if_neg (by rw [← HCE.out]; decide), hhd]
   simp only [Option.map_some, Option.getD_some]
   rw [hfa, hfr]
   rfl
  have g0 := cell_block _ _ 0 _ _ _ HC1.out
  have g1 := cell_block _ _ 1 _ _ _ HC1.out
  have g2 := cell_block _ _ 2 _ _ _ HC1.out
  have hnfI : (0 : Int) < (nf : Int) := by omega
  clear hn64' hpos hcl h0p hf0 hhd y0 y1 y2 y3 hri hpgB hcgB hfa hfr hn64 HFR
  by_cases hfst : fa ≠ 0 ∨ fr ≠ 1
  ·as_aux_lemma =>
    have HY : Hid ((139 : Int) ≠ 0) := by unfold Hid; decide
    have HRD : Hid (runD p = .error (139, 0, 0)) := by
     unfold Hid runD
     rw [HPL.out, if_pos hfst]
     rfl
    by_cases hfa0 : fa = 0
    ·have hfr1 : (fr != 1) = true := by
      rcases hfst with h | h
      ·exact absurd hfa0 h
      ·simpa using h
     subst hfa0
     clear hfst
     have hkr := kept_row w1 (s + 1) #[.slice none 0 0, .slice none 0 0, .slice none 0 0, .slice none 0 0, .int .i64 0, .int .i64 0]
     have hx := setRow_heap w1 (s + 1) _ #[.slice none 0 0, .slice none 0 0, .slice none 0 0, .slice none 0 0, .int .i64 0, .int .i64 0] 33 (0, 0) HC2.out
     have hz := box_kept hkr HC3.out (fun e => by omega)
     have hkr2 := kept_row (w1.setRow (s + 1) #[.slice none 0 0, .slice none 0 0, .slice none 0 0, .slice none 0 0, .int .i64 0, .int .i64 0]) (s + 2) #[.int .i64 139, .int .i64 0, .int .i64 0]
     have HX2 := hid_of (setRow_heap _ (s + 2) _ #[.int .i64 139, .int .i64 0, .int .i64 0] 38 (0, 0) hz)
     have HX1 := hid_of (box_kept hkr2 hx (fun e => by omega))
     have HZ := hid_of hz
     have HKX : Hid (KF w _) := (HKW.out.trans HK1.out).step (hkr.trans' hkr2) (fun j hj e => by have := HGB.out; omega)
     clear hx hkr hz hkr2
     go_upto_region 5 with fail
     go_wp2_with (first | refine wpList_store_row rfl 33 _ _ rfl (s + 1) #[.slice none 0 0, .slice none 0 0, .slice none 0 0, .slice none 0 0, .int .i64 0, .int .i64 0] rfl rfl 33 _ HC2.out size33 rfl (six_one _ _ _ _ _ _ rfl rfl rfl rfl rfl rfl) ?_ | refine wpList_store_row rfl 38 _ _ rfl (s + 2) #[.int .i64 139, .int .i64 0, .int .i64 0] rfl rfl 38 _ HZ.out size38 rfl (three_one _ _ _ rfl rfl rfl) ?_)
     refine bodyPost_ret (v := .tuple #[.agg #[.slice none 0 0, .slice none 0 0, .slice none 0 0, .slice none 0 0, .int .i64 0, .int .i64 0], .agg #[.int .i64 139, .int .i64 0, .int .i64 0]]) ?_ rfl ⟨HKX.out, by rw [HRD.out]; exact ⟨HY.out, rfl⟩⟩
     exact results_row2 (by rfl) _ _ (s + 1) (s + 2) 33 38 _ _ (0, 0) (0, 0) _ _ (by rfl) HX1.out Tryz.underlying33 rfl size33 (by rfl) HX2.out Tryz.underlying38 rfl size38
    ·have hfa1 : (fa != 0) = true := by simpa using hfa0
     clear hfst hfa0
     have hkr := kept_row w1 (s + 1) #[.slice none 0 0, .slice none 0 0, .slice none 0 0, .slice none 0 0, .int .i64 0, .int .i64 0]
     have hx := setRow_heap w1 (s + 1) _ #[.slice none 0 0, .slice none 0 0, .slice none 0 0, .slice none 0 0, .int .i64 0, .int .i64 0] 33 (0, 0) HC2.out
     have hz := box_kept hkr HC3.out (fun e => by omega)
     have hkr2 := kept_row (w1.setRow (s + 1) #[.slice none 0 0, .slice none 0 0, .slice none 0 0, .slice none 0 0, .int .i64 0, .int .i64 0]) (s + 2) #[.int .i64 139, .int .i64 0, .int .i64 0]
     have HX2 := hid_of (setRow_heap _ (s + 2) _ #[.int .i64 139, .int .i64 0, .int .i64 0] 38 (0, 0) hz)
     have HX1 := hid_of (box_kept hkr2 hx (fun e => by omega))
     have HZ := hid_of hz
     have HKX : Hid (KF w _) := (HKW.out.trans HK1.out).step (hkr.trans' hkr2) (fun j hj e => by have := HGB.out; omega)
     clear hx hkr hz hkr2
     go_upto_region 5 with fail
     go_wp2_with (first | refine wpList_store_row rfl 33 _ _ rfl (s + 1) #[.slice none 0 0, .slice none 0 0, .slice none 0 0, .slice none 0 0, .int .i64 0, .int .i64 0] rfl rfl 33 _ HC2.out size33 rfl (six_one _ _ _ _ _ _ rfl rfl rfl rfl rfl rfl) ?_ | refine wpList_store_row rfl 38 _ _ rfl (s + 2) #[.int .i64 139, .int .i64 0, .int .i64 0] rfl rfl 38 _ HZ.out size38 rfl (three_one _ _ _ rfl rfl rfl) ?_)
     refine bodyPost_ret (v := .tuple #[.agg #[.slice none 0 0, .slice none 0 0, .slice none 0 0, .slice none 0 0, .int .i64 0, .int .i64 0], .agg #[.int .i64 139, .int .i64 0, .int .i64 0]]) ?_ rfl ⟨HKX.out, by rw [HRD.out]; exact ⟨HY.out, rfl⟩⟩
     exact results_row2 (by rfl) _ _ (s + 1) (s + 2) 33 38 _ _ (0, 0) (0, 0) _ _ (by rfl) HX1.out Tryz.underlying33 rfl size33 (by rfl) HX2.out Tryz.underlying38 rfl size38
  ·as_aux_lemma =>
    have hfa : fa = 0 := Classical.byContradiction (fun h => hfst (.inl h))
    have hfr : fr = 1 := Classical.byContradiction (fun h => hfst (.inr h))
    have HPL2 : Hid (plainD p = shapesD p) := by unfold Hid; rw [HPL.out, if_neg hfst]
    subst hfa hfr
    have HSH := hid_of (rshapes_any _ p w1 B (HPW.out w1 HK1.out).1 (HPW.out w1 HK1.out).2 HO.out HPOS.out (by rw [← HNF.out]; exact hn4))
    obtain ⟨pe, hpe⟩ := nmd ((shapesD p).1)
    obtain ⟨pi, hpi⟩ := nmd (((shapesD p).2.1 : Int))
    obtain ⟨pa, hpa⟩ := nmd (((shapesD p).2.2 : Int))
    unfold faultV at HSH
    rw [← hpe, ← hpi, ← hpa] at HSH
    have HPE := hid_of hpe
    have HPI := hid_of hpi
    have HPA := hid_of hpa
    clear hpe hpi hpa HPL hfst HPOS
    go_upto_region 6 with fail
    clear x0 x2
    go_wp2_with fail
    refine HSH.out.mono ?_
    rintro e w2 ⟨rfl, hk2⟩
    have hkA := HK1.out.trans (hk2.alloc (.cells #[.int .i64 pe, .int .i64 pi, .int .i64 pa] 38))
    have HBX := hid_of (heap_alloc_new w2 (.cells #[.int .i64 pe, .int .i64 pi, .int .i64 pa] 38))
    have HK3 := hid_of hkA
    have HGX : Hid (¬ (w2.heap.size = s + 1 ∨ w2.heap.size = s + 2)) := by have h1 := (HK1.out.trans hk2).size; have h2 := HSZ.out; unfold Hid; omega
    clear hk2 hkA HSH g0 g1 g2 HC1 HC2 HC3 HK1
    go_upto_region 7 with fail
    generalize w2.alloc (.cells #[.int .i64 pe, .int .i64 pi, .int .i64 pa] 38) = w3 at *
    generalize w2.heap.size = gx at *
    have g0 := cell_block _ _ 0 _ _ _ HBX.out
    by_cases hpz : pe = 0
    ·subst hpz
     have HPZ : Hid ((plainD p).1 = 0) := by unfold Hid; rw [HPL2.out]; exact HPE.out.symm
     have hPO := plain_ok p HPZ.out
     have HPO := hid_of hPO.2
     have HRD0 : Hid (runD p = match contD [] (bodiesD p (p.fns.drop 0) 0) with | .error z => .error z | .ok bs => .ok (factsP p bs)) := by
      unfold Hid runD
      rw [if_neg (by rw [HPZ.out]; decide), List.drop_zero]
      cases bodiesD p p.fns 0 with
      | error z => rfl
      | ok l => simp [contD]
     clear hPO HPL2 HPE HPI HPA
     go_upto_region 9 with fail
     clear g0
     have hkF : KF w3 (w3.alloc (.cells #[.slice none 0 0, .slice none 0 0, .slice none 0 0, .slice none 0 0, .int .i64 0, .int .i64 0] 33)) := (Kept.refl _ _).alloc _
     have hbF := heap_alloc_new w3 (.cells #[.slice none 0 0, .slice none 0 0, .slice none 0 0, .slice none 0 0, .int .i64 0, .int .i64 0] 33)
     have HF0 : Hid (FacQ W (w3.alloc (.cells #[.slice none 0 0, .slice none 0 0, .slice none 0 0, .slice none 0 0, .int .i64 0, .int .i64 0] 33)) w3.heap.size (.slice none 0 0) (.int .i64 0) (.int .i64 0) [] [] [] (.slice none 0 0) (.slice none 0 0) (.slice none 0 0) [] []) :=
      ⟨hbF, World.ownsRow_nil _ _ _ _, fun i l hl => by simp at hl, World.ownsRow_nil _ _ _ _, World.ownsRow_nil _ _ _ _, fun i l hl => by simp at hl, (fun q hq => by cases hq), HK3.out.trans hkF, HK3.out.size⟩
     clear hkF hbF HK3 HBX HGX
     go_upto_region 10 with fail
     generalize w3.alloc (.cells #[.slice none 0 0, .slice none 0 0, .slice none 0 0, .slice none 0 0, .int .i64 0, .int .i64 0] 33) = w4 at *
     generalize w3.heap.size = gF at *
     go_wp2_with fail
     go_loopw [7] (fun iv wr => ∃ (k : Nat) (bs : List BD) (hvv tvv lvv : Value) (HV LV : List Value), k ≤ nf ∧ iv = .int .i64 (k : Int) ∧ Hid (bs.length = k) ∧ Hid (FacQ W wr gF (.slice none 0 0) (.int .i64 0) (.int .i64 0) (bs.map BD.hs) (bs.map BD.loops) (bs.map topP) hvv tvv lvv HV LV) ∧ Hid (runD p = match contD bs (bodiesD p (p.fns.drop k) k) with | .error z => .error z | .ok bs => .ok (factsP p bs)) ∧ Hid (∀ (i : Nat) (b : BD), bs[i]? = some b → ∃ f, p.fns[i]? = some f ∧ bodyD (stepsL p f) f.code.length = .ok b)) (fun iv _ => nf - (intOf iv).toNat)
     case atStart => exact ⟨0, [], _, _, _, _, _, by omega, rfl, rfl, HF0, HRD0, fun i b hb => by simp at hb⟩
     case round =>
      clear HF0 HRD0
      obtain ⟨k, bs, hvv, tvv, lvv, HV, LV, hk, rfl, HBL, HFQ, HRD, HBD⟩ := hrel
      have hb1 := box_kept HFQ.out.kept HB1.out id
      have c0 := cell_block _ _ 0 _ _ _ hb1
      have c1 := cell_block _ _ 1 _ _ _ hb1
      have c2 := cell_block _ _ 2 _ _ _ hb1
      clear hb1
      by_cases hlt : k < nf
      ·as_aux_lemma =>
        have hltI : (k : Int) < (nf : Int) := by omega
        have hkp : k < p.fns.length := by rw [← HNF.out]; exact hlt
        have hf := List.getElem?_eq_getElem hkp
        generalize p.fns[k] = f at hf
        have HFI := hid_of hf
        have HFO := hid_of (HPO.out f (List.mem_of_getElem? hf))
        have HSTEP := hid_of (bodies_step p p.fns k f hf bs)
        have HHG := hid_of (heights_ref _ p B wr (HPW.out wr HFQ.out.kept).1 (HPW.out wr HFQ.out.kept).2 HO.out HCE.out.symm HPO.out k f hf)
        obtain ⟨n, hn⟩ := nmd (f.code.length)
        have hnn := HFO.out.n
        rw [← hn] at hnn
        obtain ⟨hn1', hn4'⟩ := hnn
        have HN := hid_of hn
        clear hkp hf hn
        go_wp2_with fail
        refine HHG.out.mono ?_
        rintro e w5 ⟨hk5, hm⟩
        clear HHG
        cases hhd : heightsD (stepsL p f) f.code.length with
        | error z =>
         as_aux_lemma =>
          obtain ⟨x, y⟩ := z
          rw [hhd] at hm
          subst hm
          have hy := heights_err hhd
          have HY := hid_of hy
          have hyb : (y != 0) = true := by simpa using hy
          have HBX := hid_of (heap_alloc_new w5 (.cells #[.int .i64 y, .int .i64 (k : Int), .int .i64 x] 38))
          have hk6 : KF w5 (w5.alloc (.cells #[.int .i64 y, .int .i64 (k : Int), .int .i64 x] 38)) := (Kept.refl _ _).alloc _
          have hkk := HFQ.out.kept.trans (hk5.trans hk6)
          have HC2 := hid_of (box_kept hkk HB2.out id)
          have HC3 := hid_of (box_kept hkk HB3.out id)
          have HKK := hid_of hkk
          have HGX : Hid (¬ (w5.heap.size = s + 1 ∨ w5.heap.size = s + 2)) := by have h1 := (HFQ.out.kept.trans hk5).size; have h2 := HSZ.out; unfold Hid; omega
          have hbe : bodyD (stepsL p f) f.code.length = .error (x, y) := by unfold bodyD; rw [hhd]
          have HRE : Hid (runD p = .error (y, (k : Int), x)) := by unfold Hid; rw [HRD.out, HSTEP.out, hbe]
          have HRD2 := HRE
          clear HRD
          have HRD := HRD2
          clear HRD2 HRE hbe hhd hy hkk hk5 hk6 HFQ HBD HSTEP c0 c1 c2
          go_upto_region 14 with fail
          generalize w5.alloc (.cells #[.int .i64 y, .int .i64 (k : Int), .int .i64 x] 38) = w6 at *
          generalize w5.heap.size = gx at *
          have g0 := cell_block _ _ 0 _ _ _ HBX.out
          go_upto_region 15 with fail
          clear g0 hyb
          have HSX : Hid (∀ w', Kept (fun q => q = s + 1 ∨ q = s + 2) w6 w' → w'.cell? ⟨gx, 0, none⟩ = some (.int .i64 y) ∧ w'.cell? ⟨gx, 1, none⟩ = some (.int .i64 (k : Int)) ∧ w'.cell? ⟨gx, 2, none⟩ = some (.int .i64 x)) := fun w' hw => ⟨hw.cell (cell_block _ _ 0 _ _ _ HBX.out) HGX.out, hw.cell (cell_block _ _ 1 _ _ _ HBX.out) HGX.out, hw.cell (cell_block _ _ 2 _ _ _ HBX.out) HGX.out⟩
          have hKd : KF w6 (w6).drew := (Kept.refl _ _).drew
          refine wp_region_held_drew (S := fun w' => Kept (fun q => q = s + 1 ∨ q = s + 2) w6 w') (by kernel_rfl) ((Kept.refl _ _).drew) (fun hHeld => ?_)
          generalize (w6).drew = wd at *
          iterate 2
           refine tkn (v := ?_) 0 rfl ?_ ?_; rotate_left 1
           ·intro w hSw; obtain ⟨s0, s1, s2⟩ := HSX.out w hSw; go_simp; try with_reducible rfl
           try simp only [Act.put, tdy]
          have hc2 := box_kept hKd HC2.out id
          have hkr := kept_row wd (s + 1) #[.slice none 0 0, .slice none 0 0, .slice none 0 0, .slice none 0 0, .int .i64 0, .int .i64 0]
          have hx := setRow_heap wd (s + 1) _ #[.slice none 0 0, .slice none 0 0, .slice none 0 0, .slice none 0 0, .int .i64 0, .int .i64 0] 33 (0, 0) hc2
          have hz := box_kept hkr (box_kept hKd HC3.out id) (fun e => by omega)
          have hkr2 := kept_row (wd.setRow (s + 1) #[.slice none 0 0, .slice none 0 0, .slice none 0 0, .slice none 0 0, .int .i64 0, .int .i64 0]) (s + 2) #[.int .i64 y, .int .i64 (k : Int), .int .i64 x]
          have HX2 := hid_of (setRow_heap _ (s + 2) _ #[.int .i64 y, .int .i64 (k : Int), .int .i64 x] 38 (0, 0) hz)
          have HX1 := hid_of (box_kept hkr2 hx (fun e => by omega))
          have HZ := hid_of hz
          have HD2 := hid_of hc2
          have hk1 : Kept (fun q => q = s + 1 ∨ q = s + 2) w6 _ := (hKd.mono (fun _ _ f => f.elim)).trans (hkr.mono (fun _ _ e => .inl e))
          have HKS2 := hid_of (hk1.trans (hkr2.mono (fun _ _ e => .inr e)))
          have HKS1 := hid_of hk1
          have HKX : Hid (KF w _) := (HKW.out.trans HKK.out).step HKS2.out (fun j hj e => by have := HGB.out; omega)
          clear hx hkr hz hkr2 hk1 hc2
          refine rdy 2 rfl (fun K hK => ?_)
          refine stp_store_row rfl 33 _ _ rfl (s + 1) #[.slice none 0 0, .slice none 0 0, .slice none 0 0, .slice none 0 0, .int .i64 0, .int .i64 0] rfl rfl 33 _ HD2.out size33 rfl (six_one _ _ _ _ _ _ rfl rfl rfl rfl rfl rfl) ?_
          refine hK.out _ _ HKS1.out (fun hHeld => ?_)
          clear hK K
          try simp only [Act.put, tdy]
          refine rdy 3 rfl (fun K hK => ?_)
          refine stp_store_row rfl 38 _ _ rfl (s + 2) #[.int .i64 y, .int .i64 (k : Int), .int .i64 x] rfl rfl 38 _ HZ.out size38 rfl (three_one _ _ _ rfl rfl rfl) ?_
          refine hK.out _ _ HKS2.out (fun hHeld => ?_)
          clear hK K
          try simp only [Act.put, tdy]
          refine wpAnyH_done (by kernel_rfl) ?_ _
          go_wp2
          refine bodyPost_ret (v := .tuple #[.agg #[.slice none 0 0, .slice none 0 0, .slice none 0 0, .slice none 0 0, .int .i64 0, .int .i64 0], .agg #[.int .i64 y, .int .i64 (k : Int), .int .i64 x]]) ?_ rfl ⟨HKX.out, by rw [HRD.out]; exact ⟨HY.out, rfl⟩⟩
          exact results_row2 (by rfl) _ _ (s + 1) (s + 2) 33 38 _ _ (0, 0) (0, 0) _ _ (by rfl) HX1.out Tryz.underlying33 rfl size33 (by rfl) HX2.out Tryz.underlying38 rfl size38
        | ok hs =>
         as_aux_lemma =>
          rw [hhd] at hm
          obtain ⟨u, he, hu⟩ := hm
          subst he
          have HHD := hid_of hhd
          obtain ⟨b, hb⟩ : ∃ b, bodyD (stepsL p f) f.code.length = .ok b := ⟨_, by unfold bodyD; rw [hhd]⟩
          have hbsh := body_shape hb
          have ehs : b.hs = hs := by have h9 := hbsh.2.2.2; rw [hhd] at h9; cases h9; rfl
          subst ehs
          have HBOD := hid_of hb
          have hfit := heights_fit _ _ (steps_ok p f HFO.out HPO.out) b.hs hhd
          have HFIT := hid_of hfit
          have hlen : b.hs.length = n := by rw [HN.out]; exact hfit.len
          obtain ⟨ug, uc, hus, _⟩ := own_look hu (show 0 < b.hs.length by omega)
          rw [hlen] at hus
          subst hus
          have hbA := heap_alloc_new w5 (.cells #[.int .i64 0, .int .i64 0, .int .i64 0] 38)
          have hk6 : KF w5 (w5.alloc (.cells #[.int .i64 0, .int .i64 0, .int .i64 0] 38)) := (Kept.refl _ _).alloc _
          have HF6 := hid_of (HFQ.out.same (hk5.trans hk6))
          have HU6 := hid_of (own_mono (hk6.ownsRow hu (fun _ _ f => f)) (show W.heap.size ≤ wr.heap.size from HFQ.out.kept.size))
          have HUT : Hid (∀ q, tvv.ownBlock = some q → (Value.slice (some ⟨ug, 0, none⟩) n uc).ownBlock ≠ some q) := fun q hq e => by
           have h1 := (HFQ.out.tv.lt q hq).2
           have h2 := (hu.lt q e).1
           omega
          have HLEN := hid_of hlen
          have gz := cell_block _ _ 0 _ _ _ hbA
          clear hhd hb hbsh hfit hlen hu hbA hk6 hk5 HFQ c0 c1 c2
          go_upto_region 14 with fail
          generalize w5.alloc (.cells #[.int .i64 0, .int .i64 0, .int .i64 0] 38) = w6 at *
          generalize w5.heap.size = gx at *
          go_upto_region 16 with fail
          clear gz
          obtain ⟨a1, c1, hv1⟩ := ownsRow_shape HF6.out.hv
          obtain ⟨a2, c2, hv2⟩ := ownsRow_shape HF6.out.tv
          obtain ⟨a3, c3, hv3⟩ := ownsRow_shape HF6.out.lv
          have e1 : (bs.map BD.hs).length = k := by rw [List.length_map]; exact HBL.out
          have e2 : (bs.map topP).length = k := by rw [List.length_map]; exact HBL.out
          have e3 : (bs.map BD.loops).length = k := by rw [List.length_map]; exact HBL.out
          have HE1 := hid_of e1
          have HE2 := hid_of e2
          have HE3 := hid_of e3
          rw [e1] at hv1
          rw [e2] at hv2
          rw [e3] at hv3
          subst hv1 hv2 hv3
          clear e1 e2 e3
          have H2 := HF6.out
          obtain ⟨v1, w7, hr1, ho1, hk01, hk11, hnb1⟩ := push_val H2.hv (.slice (some ⟨ug, 0, none⟩) n uc) rfl H2.kept (by have := HE1.out; omega)
          obtain ⟨a1', c1', hv1⟩ := ownsRow_shape ho1
          rw [HE1.out] at hv1
          obtain ⟨n1', hn1'⟩ := nmd (k + 1)
          rw [← hn1'] at hv1
          subst hv1
          have HN1 := hid_of hn1'
          clear hn1'
          have HR1 := hid_of hr1
          have hbx3 := box_kept hk11 H2.box (fun e => own_box2 H2.hv H2.box (by decide) e)
          have HF8 := hid_of (H2.stepH (v' := .slice a1' n1' c1') HU6.out HUT.out ho1 hk01 hk11 hnb1)
          have HU7 : Hid (OwnN (w7.setCell ⟨gF, 0, none⟩ (.slice a1' n1' c1')) W.heap.size (.slice (some ⟨ug, 0, none⟩) n uc) b.hs) := by
           have h9 := hk11.ownsRow HU6.out (fun q hq e => own_two H2.hv HU6.out (by decide) q e hq)
           exact (kept_set w7 gF 0 (.slice a1' n1' c1')).ownsRow h9 (fun q hq e => own_box2 h9 hbx3 (by decide) (by rw [hq, e]))
          have m0 := cell_block _ _ 0 _ _ _ H2.box
          have m2 := cell_block _ _ 0 _ _ _ hbx3
          have m3 := frozen_block _ _ 0 _ _ hbx3
          clear hr1 ho1 hk01 hk11 hnb1 hbx3 H2 HF6 HU6
          go_upto_region 17 with (at_builtin; refine wp_app2 rfl (.tmp 67) (.tmp 69) 29 29 rfl _ _ rfl rfl _ w7 HR1.out ?_)
          clear m0 m2 m3 HR1
          generalize w7.setCell ⟨gF, 0, none⟩ (.slice a1' n1' c1') = w8 at *
          have HTOP := hid_of (fun w' (hw : KF w8 w') => top_ref _ p B w' (HPW.out w' (HF8.out.kept.trans hw)).1 (HPW.out w' (HF8.out.kept.trans hw)).2 HO.out HCE.out.symm HPO.out k f HFI.out (.slice (some ⟨ug, 0, none⟩) n uc) b.hs (own_mono (hw.ownsRow HU7.out (fun _ _ f => f)) (Nat.zero_le _)) HFIT.out)
          have HSM : Hid (∀ w', Kept (fun q => (Value.slice a2 k c2).ownBlock = some q ∨ q = gF) w8 w' → w'.cell? ⟨s, 0, none⟩ = some (.int .i64 mem) ∧ w'.cell? ⟨s, 1, none⟩ = some (.slice dao nd dc) ∧ w'.cell? ⟨s, 2, none⟩ = some (.slice (some ⟨pg, po, none⟩) nf fc)) := fun w' hw => by
           have hsb := box_kept HF8.out.kept HB1.out id
           have hne : ¬ ((Value.slice a2 k c2).ownBlock = some s ∨ s = gF) := fun e => by
            have h2 := HSZ.out
            rcases e with e | e
            ·have := (HF8.out.tv.lt s e).1; omega
            ·have := HF8.out.lo; omega
           exact ⟨hw.cell (cell_block _ _ 0 _ _ _ hsb) hne, hw.cell (cell_block _ _ 1 _ _ _ hsb) hne, hw.cell (cell_block _ _ 2 _ _ _ hsb) hne⟩
          go_cut [8] from 48 to 107 (fun v8 wx => v8 = .slice (some ⟨ug, 0, none⟩) n uc ∧ ∃ a2' n2' c2', Hid (FacQ W wx gF (.slice none 0 0) (.int .i64 0) (.int .i64 0) (bs.map BD.hs ++ [b.hs]) (bs.map BD.loops) (bs.map topP ++ [topP b]) (.slice a1' n1' c1') (.slice a2' n2' c2') (.slice a3 k c3) (HV ++ [.slice (some ⟨ug, 0, none⟩) n uc]) LV) ∧ Hid (OwnN wx W.heap.size (.slice (some ⟨ug, 0, none⟩) n uc) b.hs))
          case first =>
           refine wp_region_held_drew (S := fun w' => Kept (fun q => (Value.slice a2 k c2).ownBlock = some q ∨ q = gF) w8 w') (by kernel_rfl) ((Kept.refl _ _).drew) (fun hHeld => ?_)
           have hKd : KF w8 w8.drew := (Kept.refl _ _).drew
           generalize w8.drew = wd at *
           iterate 1
            refine tkn (v := ?_) 0 rfl ?_ ?_; rotate_left 1
            ·intro w hSw; obtain ⟨s0, s1, s2⟩ := HSM.out w hSw; go_simp; try with_reducible rfl
            try simp only [Act.put, tdy]
           iterate 3
            refine tkn (v := ?_) 2 rfl ?_ ?_; rotate_left 1
            ·intro w hSw; obtain ⟨s0, s1, s2⟩ := HSM.out w hSw; go_simp; try with_reducible rfl
            try simp only [Act.put, tdy]
           refine wpAnyH_ready (rs := [1, 5]) (by kernel_rfl) (by simp) ?_
           refine AllReadyH.cons rfl (fun K hK => ?_) (AllReadyH.cons rfl (fun K hK => ?_) AllReadyH.nil)
           ·as_aux_lemma =>
             have l1 := cell_block _ _ 1 _ _ _ (box_kept hKd HF8.out.box id)
             go_simp
             refine hK.out _ _ hHeld (fun hHeld => ?_)
             clear hK K l1
             try simp only [Act.put, tdy]
             refine rdy 5 rfl (fun K hK => ?_)
             go_simp
             refine (HTOP.out _ hKd).mono ?_
             rintro e w9 ⟨hk9, hTe⟩
             obtain ⟨T, rfl, hT⟩ := hTe
             have hTb : T = topP b := hT.uniq (top_is (steps_ok p f HFO.out HPO.out) HBOD.out)
             have HTB := hid_of hTb
             have H9 := HF8.out.same (hKd.trans hk9)
             have HU9 := hid_of ((hKd.trans hk9).ownsRow HU7.out (fun _ _ f => f))
             obtain ⟨v2, wA, hr2, ho2, hk02, hk12, hnb2⟩ := push_num2 H9.tv T H9.kept (by have := HE2.out; omega)
             obtain ⟨a2', c2', hv2⟩ := ownsRow_shape ho2
             obtain ⟨n2', hn2'⟩ := nmd ((bs.map topP ++ [T]).length)
             rw [← hn2'] at hv2
             subst hv2
             clear hn2'
             have HR2 := hid_of hr2
             have hkall : Kept (fun q => (Value.slice a2 k c2).ownBlock = some q ∨ q = gF) w8 wA := ((hKd.trans hk9).mono (fun _ _ f => f.elim)).trans (hk12.mono (fun _ _ e => .inl e))
             have HKS6 := hid_of hkall
             have HKS7 := hid_of (hkall.setCell (p := ⟨gF, 1, none⟩) (.inr (.inr rfl)) (.slice a2' n2' c2'))
             have hbx6 := box_kept hk12 H9.box (fun e => own_box2 H9.tv H9.box (by decide) e)
             have HG1 := hid_of (And.intro (cell_block _ _ 1 _ _ _ hbx6) (frozen_block _ _ 1 _ _ hbx6))
             have HFN := hid_of (H9.stepT (v' := .slice a2' n2' c2') ho2 hk02 hk12 hnb2)
             have HUN : Hid (OwnN (wA.setCell ⟨gF, 1, none⟩ (.slice a2' n2' c2')) W.heap.size (.slice (some ⟨ug, 0, none⟩) n uc) b.hs) := by
              have h9 := hk12.ownsRow HU9.out (fun q hq e => HUT.out q e hq)
              exact (kept_set wA gF 1 (.slice a2' n2' c2')).ownsRow h9 (fun q hq e => own_box2 h9 hbx6 (by decide) (by rw [hq, e]))
             have HC9 := hid_of H9.box
             clear hr2 ho2 hk02 hk12 hnb2 hkall hbx6 H9 hT hTb HU9
             refine hK.out _ _ ((hKd.trans hk9).mono (fun _ _ f => f.elim)) (fun hHeld => ?_)
             clear hK K
             try simp only [Act.put, tdy]
             refine rdy 6 rfl (fun K hK => ?_)
             go_simp
             refine hK.out _ _ (hHeld.alloc _) (fun hHeld => ?_)
             clear hK K
             try simp only [Act.put, tdy]
             refine rdy 7 rfl (fun K hK => ?_)
             refine step_app rfl (.tmp 73) (.tmp 78) 30 30 rfl _ _ rfl rfl (.slice a2' n2' c2') wA HR2.out ?_
             refine hK.out _ _ HKS6.out (fun hHeld => ?_)
             clear hK K
             try simp only [Act.put, tdy]
             iterate 1
              refine tkn (v := ?_) 8 rfl ?_ ?_; rotate_left 1
              ·intro w hSw; obtain ⟨s0, s1, s2⟩ := HSM.out w hSw; go_simp; try with_reducible rfl
              try simp only [Act.put, tdy]
             obtain ⟨g1, gf1⟩ := HG1.out
             refine rdy 9 rfl (fun K hK => ?_)
             go_simp
             refine hK.out _ _ HKS7.out (fun hHeld => ?_)
             clear hK K
             try simp only [Act.put, tdy]
             refine wpAnyH_done (by kernel_rfl) ?_ _
             clear hHeld HSM HTOP HR2 HKS6 HKS7 HG1 HC9 g1 gf1
             go_wp2_with fail
             go_meet
             exact ⟨rfl, a2', n2', c2', by rw [← HTB.out]; exact HFN, HUN⟩
           ·as_aux_lemma =>
             go_simp
             refine (HTOP.out _ hKd).mono ?_
             rintro e w9 ⟨hk9, hTe⟩
             obtain ⟨T, rfl, hT⟩ := hTe
             have hTb : T = topP b := hT.uniq (top_is (steps_ok p f HFO.out HPO.out) HBOD.out)
             have HTB := hid_of hTb
             have H9 := HF8.out.same (hKd.trans hk9)
             have HU9 := hid_of ((hKd.trans hk9).ownsRow HU7.out (fun _ _ f => f))
             obtain ⟨v2, wA, hr2, ho2, hk02, hk12, hnb2⟩ := push_num2 H9.tv T H9.kept (by have := HE2.out; omega)
             obtain ⟨a2', c2', hv2⟩ := ownsRow_shape ho2
             obtain ⟨n2', hn2'⟩ := nmd ((bs.map topP ++ [T]).length)
             rw [← hn2'] at hv2
             subst hv2
             clear hn2'
             have HR2 := hid_of hr2
             have hkall : Kept (fun q => (Value.slice a2 k c2).ownBlock = some q ∨ q = gF) w8 wA := ((hKd.trans hk9).mono (fun _ _ f => f.elim)).trans (hk12.mono (fun _ _ e => .inl e))
             have HKS6 := hid_of hkall
             have HKS7 := hid_of (hkall.setCell (p := ⟨gF, 1, none⟩) (.inr (.inr rfl)) (.slice a2' n2' c2'))
             have hbx6 := box_kept hk12 H9.box (fun e => own_box2 H9.tv H9.box (by decide) e)
             have HG1 := hid_of (And.intro (cell_block _ _ 1 _ _ _ hbx6) (frozen_block _ _ 1 _ _ hbx6))
             have HFN := hid_of (H9.stepT (v' := .slice a2' n2' c2') ho2 hk02 hk12 hnb2)
             have HUN : Hid (OwnN (wA.setCell ⟨gF, 1, none⟩ (.slice a2' n2' c2')) W.heap.size (.slice (some ⟨ug, 0, none⟩) n uc) b.hs) := by
              have h9 := hk12.ownsRow HU9.out (fun q hq e => HUT.out q e hq)
              exact (kept_set wA gF 1 (.slice a2' n2' c2')).ownsRow h9 (fun q hq e => own_box2 h9 hbx6 (by decide) (by rw [hq, e]))
             have HC9 := hid_of H9.box
             clear hr2 ho2 hk02 hk12 hnb2 hkall hbx6 H9 hT hTb HU9
             refine hK.out _ _ ((hKd.trans hk9).mono (fun _ _ f => f.elim)) (fun hHeld => ?_)
             clear hK K
             try simp only [Act.put, tdy]
             refine wpAnyH_ready (rs := [1, 6]) (by kernel_rfl) (by simp) ?_
             refine AllReadyH.cons rfl (fun K hK => ?_) (AllReadyH.cons rfl (fun K hK => ?_) AllReadyH.nil)
             ·as_aux_lemma =>
               have l1 := cell_block _ _ 1 _ _ _ (HC9.out)
               go_simp
               refine hK.out _ _ hHeld (fun hHeld => ?_)
               clear hK K l1
               try simp only [Act.put, tdy]
               refine rdy 6 rfl (fun K hK => ?_)
               go_simp
               refine hK.out _ _ (hHeld.alloc _) (fun hHeld => ?_)
               clear hK K
               try simp only [Act.put, tdy]
               refine rdy 7 rfl (fun K hK => ?_)
               refine step_app rfl (.tmp 73) (.tmp 78) 30 30 rfl _ _ rfl rfl (.slice a2' n2' c2') wA HR2.out ?_
               refine hK.out _ _ HKS6.out (fun hHeld => ?_)
               clear hK K
               try simp only [Act.put, tdy]
               iterate 1
                refine tkn (v := ?_) 8 rfl ?_ ?_; rotate_left 1
                ·intro w hSw; obtain ⟨s0, s1, s2⟩ := HSM.out w hSw; go_simp; try with_reducible rfl
                try simp only [Act.put, tdy]
               obtain ⟨g1, gf1⟩ := HG1.out
               refine rdy 9 rfl (fun K hK => ?_)
               go_simp
               refine hK.out _ _ HKS7.out (fun hHeld => ?_)
               clear hK K
               try simp only [Act.put, tdy]
               refine wpAnyH_done (by kernel_rfl) ?_ _
               clear hHeld HSM HTOP HR2 HKS6 HKS7 HG1 HC9 g1 gf1
               go_wp2_with fail
               go_meet
               exact ⟨rfl, a2', n2', c2', by rw [← HTB.out]; exact HFN, HUN⟩
             ·as_aux_lemma =>
               go_simp
               refine hK.out _ _ (hHeld.alloc _) (fun hHeld => ?_)
               clear hK K
               try simp only [Act.put, tdy]
               refine rdy 1 rfl (fun K hK => ?_)
               have l1 := cell_block _ _ 1 _ _ _ (box_kept ((Kept.refl (fun _ => False) w9).alloc (.cells #[.int .i64 T] 3)) HC9.out id)
               go_simp
               refine hK.out _ _ hHeld (fun hHeld => ?_)
               clear hK K l1
               try simp only [Act.put, tdy]
               refine rdy 7 rfl (fun K hK => ?_)
               refine step_app rfl (.tmp 73) (.tmp 78) 30 30 rfl _ _ rfl rfl (.slice a2' n2' c2') wA HR2.out ?_
               refine hK.out _ _ HKS6.out (fun hHeld => ?_)
               clear hK K
               try simp only [Act.put, tdy]
               iterate 1
                refine tkn (v := ?_) 8 rfl ?_ ?_; rotate_left 1
                ·intro w hSw; obtain ⟨s0, s1, s2⟩ := HSM.out w hSw; go_simp; try with_reducible rfl
                try simp only [Act.put, tdy]
               obtain ⟨g1, gf1⟩ := HG1.out
               refine rdy 9 rfl (fun K hK => ?_)
               go_simp
               refine hK.out _ _ HKS7.out (fun hHeld => ?_)
               clear hK K
               try simp only [Act.put, tdy]
               refine wpAnyH_done (by kernel_rfl) ?_ _
               clear hHeld HSM HTOP HR2 HKS6 HKS7 HG1 HC9 g1 gf1
               go_wp2_with fail
               go_meet
               exact ⟨rfl, a2', n2', c2', by rw [← HTB.out]; exact HFN, HUN⟩
          case rest =>
           as_aux_lemma =>
            obtain ⟨rfl, a2', n2', c2', HFA, HUA⟩ := hcut
            obtain ⟨wS, hwS⟩ := nmd (wc)
            subst hwS
            clear HF8 HU7 HTOP HSM
            have HBA : Hid (∃ bsX, BAt p bsX k f b) := by
             refine ⟨List.replicate k bd0 ++ [b], HFI.out, ?_, HBOD.out, steps_ok p f HFO.out HPO.out, (body_shape HBOD.out).1, HFO.out⟩
             simp [List.getD]
            obtain ⟨bsX, hBA⟩ := HBA.out
            have HLI : Hid (∀ i, i < n → ((tourP (nxOf (stepsL p f)) f.code.length).again.getD i false = true ↔ b.hs.getD i 0 ≠ -1 ∧ Plus (fun j => nextD p (k : Int) (j : Int)) i i)) := fun i hi => loop_iff hBA (by rw [← HN.out]; exact hi)
            obtain ⟨ag, hag⟩ := nmd ((tourP (nxOf (stepsL p f)) f.code.length).again)
            rw [← hag] at HLI
            have HLB : Hid (b.loops = loopsF ag n) := by unfold Hid; rw [hag, HN.out]; exact (body_shape HBOD.out).2.1
            have HCOM := hid_of (fun (i : Nat) (hi : i < n) w' (hw : KF wS w') => comes_ref _ p B w' (HPW.out w' (HFA.out.kept.trans hw)).1 (HPW.out w' (HFA.out.kept.trans hw)).2 HO.out k f HFI.out HFO.out i (by rw [← HN.out]; exact hi))
            have HL0 : Hid (OwnN wS wS.heap.size (.slice none 0 0) (loopsF ag 0)) := World.ownsRow_nil _ _ _ _
            clear hag hBA HBA
            go_upto_region 19 with fail
            go_wp2_with fail
            go_loopw [10, 11] (fun lv iv wr => ∃ (i : Nat), i ≤ n ∧ iv = .int .i64 (i : Int) ∧ Hid (OwnN wr wS.heap.size lv (loopsF ag i)) ∧ Hid (KF wS wr)) (fun _ iv _ => n - (intOf iv).toNat)
            case atStart => exact ⟨0, by omega, rfl, HL0, Kept.refl _ _⟩
            case round =>
             clear HL0
             obtain ⟨i, hin, rfl, HOL, HKR⟩ := hrel
             by_cases hil : i < n
             ·as_aux_lemma =>
               have hilI : (i : Int) < (n : Int) := by omega
               have hui := own_int (HKR.out.ownsRow HUA.out (fun _ _ f => f)) HLEN.out hil
               have HLI2 := hid_of (HLI.out i hil)
               have hsc := loopsF_succ ag i
               have hlN : (loopsF ag i).length ≤ 4096 := by
                have : (loopsF ag i).length ≤ i := by unfold loopsF; rw [List.length_map]; exact Nat.le_trans (List.length_filter_le _ _) (by simp)
                omega
               have HLN := hid_of hlN
               obtain ⟨lao, lc, hlv⟩ := ownsRow_shape HOL.out
               obtain ⟨ln, hln⟩ := nmd ((loopsF ag i).length)
               rw [← hln] at hlv
               subst hlv
               have hb1 := box_kept (HFA.out.kept.trans HKR.out) HB1.out id
               have c0 := cell_block _ _ 0 _ _ _ hb1
               have c1' := cell_block _ _ 1 _ _ _ hb1
               have c2' := cell_block _ _ 2 _ _ _ hb1
               generalize b.hs.getD i 0 = hi at *
               clear hlN hln hb1
               by_cases hm1 : hi = -1
               ·as_aux_lemma =>
                 have hf9 : ag.getD i false = false := by
                  cases h9 : ag.getD i false with
                  | false => rfl
                  | true => exact absurd hm1 (HLI2.out.1 h9).1
                 rw [hf9, if_neg (by decide)] at hsc
                 have HO2 : Hid (OwnN wr wS.heap.size (.slice lao ln lc) (loopsF ag (i + 1))) := by unfold Hid; rw [hsc]; exact HOL.out
                 subst hm1
                 clear hf9 hsc HOL HLI2 HCOM c0 c1' c2'
                 go_wp2
                 go_roundw
                 case rel => exact ⟨i + 1, by omega, by go_num, HO2, HKR⟩
                 case measure => simp [intOf]; omega
               ·as_aux_lemma =>
                 have hm2 : (hi != -1) = true := by simpa using hm1
                 have HCI := hid_of (HCOM.out i hil wr HKR.out)
                 have HM1 := hid_of hm1
                 have HSC := hid_of hsc
                 clear hm1 HCOM hsc HLI
                 go_wp2_with fail
                 refine HCI.out.mono ?_
                 rintro e wc1 ⟨bb, rfl, hbb, hkc⟩
                 have HKR2 := hid_of (HKR.out.trans hkc)
                 have HOL2 := hid_of (hkc.ownsRow HOL.out (fun _ _ f => f))
                 clear HCI c0 c1' c2' HOL HKR hkc hui
                 cases bb with
                 | false =>
                  as_aux_lemma =>
                   have hf9 : ag.getD i false = false := by
                    cases h9 : ag.getD i false with
                    | false => rfl
                    | true => exact absurd (hbb.2 (HLI2.out.1 h9).2) (by decide)
                   have HO2 : Hid (OwnN wc1 wS.heap.size (.slice lao ln lc) (loopsF ag (i + 1))) := by unfold Hid; rw [HSC.out, hf9, if_neg (by decide)]; exact HOL2.out
                   clear hf9 hbb HSC HLI2 HOL2
                   go_wp2
                   go_roundw
                   case rel => exact ⟨i + 1, by omega, by go_num, HO2, HKR2⟩
                   case measure => simp [intOf]; omega
                 | true =>
                  as_aux_lemma =>
                   have hf9 : ag.getD i false = true := HLI2.out.2 ⟨HM1.out, hbb.1 rfl⟩
                   obtain ⟨v', w', hr, ho, hk0, hk1⟩ := push_num HOL2.out (i : Int) HKR2.out (by have := HLN.out; omega)
                   have HR := hid_of hr
                   have HO2 : Hid (OwnN w' wS.heap.size v' (loopsF ag (i + 1))) := by unfold Hid; rw [HSC.out, hf9, if_pos rfl]; exact ho
                   have HK' := hid_of hk0
                   obtain ⟨ao', c', hv'⟩ := ownsRow_shape ho
                   generalize (loopsF ag i ++ [(i : Int)]).length = nl' at hv'
                   subst hv'
                   clear hr ho hk0 hk1 hf9 hbb HSC HLI2 HOL2 HM1
                   go_wp2_with (at_builtin; refine wp_app2 rfl (.tmp 98) (.tmp 100) 30 30 rfl _ _ rfl rfl _ w' HR.out ?_)
                   go_roundw
                   case rel => exact ⟨i + 1, by omega, by go_num, HO2, HK'⟩
                   case measure => simp [intOf]; omega
             ·as_aux_lemma =>
               have e : i = n := by omega
               have hilI : ¬ ((i : Int) < (n : Int)) := by omega
               have HOL2 : Hid (OwnN wr wS.heap.size u10 b.loops) := by unfold Hid; rw [HLB.out, ← e]; exact HOL.out
               have H2 := HFA.out.same HKR.out
               obtain ⟨lao, lc, hlv⟩ := ownsRow_shape HOL2.out
               generalize b.loops.length = ln at hlv
               subst hlv
               have hu2 := own_mono HOL2.out (show W.heap.size ≤ wS.heap.size from HFA.out.kept.size)
               have hut2 : ∀ q, (Value.slice a2' n2' c2').ownBlock = some q → (Value.slice lao ln lc).ownBlock ≠ some q := fun q hq e => by
                have h1 := (HFA.out.tv.lt q hq).2
                have h2 := (HOL2.out.lt q e).1
                omega
               obtain ⟨v3, w3', hr3, ho3, hk03, hk13, hnb3⟩ := push_val H2.lv (.slice lao ln lc) rfl H2.kept (by have := HE3.out; omega)
               obtain ⟨a3', c3', hv3⟩ := ownsRow_shape ho3
               rw [HE3.out] at hv3
               obtain ⟨n3', hn3'⟩ := nmd (k + 1)
               rw [← hn3'] at hv3
               subst hv3
               have HR3 := hid_of hr3
               have hbx8 := box_kept hk13 H2.box (fun e => own_box2 H2.lv H2.box (by decide) e)
               have hFN := H2.stepL (v' := .slice a3' n3' c3') hu2 hut2 ho3 hk03 hk13 hnb3
               have HFN : Hid (FacQ W (w3'.setCell ⟨gF, 2, none⟩ (.slice a3' n3' c3')) gF (.slice none 0 0) (.int .i64 0) (.int .i64 0) ((bs ++ [b]).map BD.hs) ((bs ++ [b]).map BD.loops) ((bs ++ [b]).map topP) (.slice a1' n1' c1') (.slice a2' n2' c2') (.slice a3' n3' c3') (HV ++ [.slice (some ⟨ug, 0, none⟩) n uc]) (LV ++ [.slice lao ln lc])) := by unfold Hid; simp only [List.map_append, List.map_cons, List.map_nil]; exact hFN
               have m2 := cell_block _ _ 2 _ _ _ H2.box
               have m4 := cell_block _ _ 2 _ _ _ hbx8
               have m5 := frozen_block _ _ 2 _ _ hbx8
               have HRN : Hid (runD p = match contD (bs ++ [b]) (bodiesD p (p.fns.drop (k + 1)) (k + 1)) with | .error z => .error z | .ok bs => .ok (factsP p bs)) := by unfold Hid; rw [HRD.out, HSTEP.out, HBOD.out]
               have HBD2 : Hid (∀ (i : Nat) (b' : BD), (bs ++ [b])[i]? = some b' → ∃ f, p.fns[i]? = some f ∧ bodyD (stepsL p f) f.code.length = .ok b') := fun i b' hb' => by
                rcases snoc_at hb' with h9 | ⟨h9, h8⟩
                ·exact HBD.out i b' h9
                ·rw [h9, HBL.out, h8]
                 exact ⟨f, HFI.out, HBOD.out⟩
               have HBL2 : Hid ((bs ++ [b]).length = k + 1) := by unfold Hid; rw [List.length_append, HBL.out]; rfl
               clear hr3 ho3 hk03 hk13 hnb3 hbx8 hFN H2 hu2 hut2 hn3' HFA HUA HOL HOL2 HKR HCOM HLI HLB HRD HSTEP HBD e
               go_upto_region 24 with fail
               go_upto_region 12 with (at_builtin; refine wp_app2 rfl (.tmp 103) (.tmp 105) 29 29 rfl _ _ rfl rfl _ w3' HR3.out ?_)
               clear m2 m4 m5 HR3
               generalize w3'.setCell ⟨gF, 2, none⟩ (.slice a3' n3' c3') = wN at *
               go_wp2_with fail
               go_roundw
               case rel => exact ⟨k + 1, bs ++ [b], _, _, _, _, _, by omega, by go_num, HBL2, HFN, HRN, HBD2⟩
               case measure => simp [intOf]; omega
      ·as_aux_lemma =>
        have e : k = nf := by omega
        have hltI : ¬ ((k : Int) < (nf : Int)) := by omega
        have hbl : bs.length = p.fns.length := by rw [HBL.out, e, HNF.out]
        have HBS : Hid (Bs p bs) := by
         refine ⟨HPZ.out, hbl, fun q f hf => ?_⟩
         have hq : q < bs.length := by rw [hbl]; exact (List.getElem?_eq_some_iff.1 hf).1
         obtain ⟨f', h1, h2⟩ := HBD.out q _ (List.getElem?_eq_getElem hq)
         rw [hf] at h1
         cases h1
         exact ⟨_, List.getElem?_eq_getElem hq, h2⟩
        have HRF : Hid (runD p = .ok (factsP p bs)) := by
         unfold Hid
         rw [HRD.out, List.drop_of_length_le (by rw [← HNF.out]; omega)]
         simp [bodiesD, contD]
        have HBN : Hid (bs.length = nf) := by unfold Hid; rw [HBL.out, e]
        have HLH : Hid (∀ (i : Nat) (f : FN), p.fns[i]? = some f → ((bs.map BD.hs).getD i []).length = f.code.length) := fun i f hf => by
         have hq : i < bs.length := by rw [hbl]; exact (List.getElem?_eq_some_iff.1 hf).1
         obtain ⟨b, hb⟩ := HBS.out.at' hf
         rw [(hs_at hb hq).1]
         exact (heights_fit _ _ hb.ok b.hs (body_shape hb.bd).2.2.2).len
        obtain ⟨hg, hc, hv1⟩ := own_at9k HFQ.out.hv (by rw [List.length_map, HBN.out]; omega)
        obtain ⟨lg, lc, hv3⟩ := own_at9k HFQ.out.lv (by rw [List.length_map, HBN.out]; omega)
        obtain ⟨tg, tc, hv2⟩ := own_at9k HFQ.out.tv (by rw [List.length_map, HBN.out]; omega)
        rw [List.length_map, HBN.out] at hv1 hv2 hv3
        subst hv1 hv2 hv3
        have HRC := hid_of (fun (q : Nat) (hq : q < nf) w' (hw : KF wr w') => reached_ref _ p B w' (HPW.out w' (HFQ.out.kept.trans hw)).1 HPO.out (by rw [← HNF.out]; exact ⟨hn1, hn4⟩) (.slice (some ⟨hg, 0, none⟩) nf hc) (bs.map BD.hs) (by
         have h9 := (HFQ.out.same hw).rows.1
         rw [List.length_map, HBN.out] at h9
         rw [← HNF.out]; exact h9) HLH.out q (by rw [← HNF.out]; exact hq))
        rw [← HNF.out] at HRC
        obtain ⟨d0, d1, d2, d3, d4, d5⟩ := look6k HFQ.out.box
        have hF0 := HFQ.out.box
        have HRC0 := hid_of (HRC.out 0 (by omega) wr (Kept.refl _ _))
        clear hbl HBD HRD HBL hF0 e
        go_wp2_with fail
        refine HRC0.out.mono ?_
        rintro e w5 ⟨gl, cs, rfl, hcs, hcl, hci, hk5⟩
        have hF5 := HFQ.out.same hk5
        have hks := kept_set w5 gF 3 (.slice (some ⟨gl, 0, none⟩) nf nf)
        have hF6 := hF5.put hks (set_block _ _ 3 _ _ _ hF5.box _)
        have hglF : gF ≠ gl := fun e => own_box2 hcs hF5.box (by decide) (by rw [← e]; rfl)
        have hcs6 := hks.ownsRow hcs (fun q hq e => by simp [Value.ownBlock] at hq; omega)
        have e3 := cell_block _ _ 3 _ _ _ hF5.box
        have e4 := frozen_block _ _ 3 _ _ hF5.box
        have e5 := cell_block _ _ 3 _ _ _ hF6.box
        obtain ⟨l0, l1⟩ := rowB_at hcs6 hcl (show 0 < nf by omega)
        have hglo : W.heap.size ≤ gl := Nat.le_trans HFQ.out.kept.size (hcs.lt gl rfl).1
        have hks2 := kept_set (w5.setCell ⟨gF, 3, none⟩ (.slice (some ⟨gl, 0, none⟩) nf nf)) gl 0 (.bool true)
        have hF7 := hF6.over hks2 (fun q e => by
         have e2 : q = gl := e
         subst e2
         rcases hcs6.2 with ⟨h', _⟩ | ⟨g', cap', cur, h', _, hgg, _⟩
         ·cases h'
         ·cases h'
          exact ⟨hglo, cur, 4, hgg, by decide, by decide, by decide⟩)
        have hcs7 : (World.setCell (w5.setCell ⟨gF, 3, none⟩ (.slice (some ⟨gl, 0, none⟩) nf nf)) ⟨gl, 0, none⟩ (.bool true)).ownsRow wr.heap.size 4 1 (.slice (some ⟨gl, 0, none⟩) nf nf) nf (bools (cs.set 0 true)) := by
         rw [show bools (cs.set 0 true) = (bools cs).set 0 (.bool true) by simp [bools, List.map_set]]
         exact (World.ownsRow.stored hcs6 0 (.bool true)).1
        rw [live_eq HBS.out (by rw [← HNF.out]; exact hcl) (by rw [← HNF.out]; exact hci)] at hcs7
        have HF7 := hid_of hF7
        have HLV := hid_of (own_mono hcs7 (show W.heap.size ≤ wr.heap.size from HFQ.out.kept.size))
        have hnfI : (0 : Int) < (nf : Int) := by omega
        clear hks hks2 hF5 hF6 hF7 hcs hcs6 hcs7 hcl hci hk5 HRC0 hglo hglF
        go_upto_region 27 with fail
        clear d0 d1 d2 d3 d4 d5 e3 e4 e5 l0 l1 c0 c1 c2 HFQ HRC
        generalize (w5.setCell ⟨gF, 3, none⟩ (.slice (some ⟨gl, 0, none⟩) nf nf)).setCell ⟨gl, 0, none⟩ (.bool true) = w7 at *
        obtain ⟨lv, hlv⟩ := nmd ((factsP p bs).live)
        rw [← hlv] at HLV
        have HLL : Hid (lv.length = nf) := by unfold Hid; rw [hlv, live_length, HBN.out]
        have HLI : Hid (∀ i, i < nf → (lv.getD i false = true ↔ (i : Int) ∈ ordF bs)) := fun i hi => by rw [hlv]; exact live_iff HBS.out (by rw [HBN.out]; exact hi)
        have HLE := hid_of hlv
        clear hlv
        have HRC := hid_of (fun (q : Nat) (hq : q < nf) w' (hw : KF w7 w') => reached_ref _ p B w' (HPW.out w' (HF7.out.kept.trans hw)).1 HPO.out (by rw [← HNF.out]; exact ⟨hn1, hn4⟩) (.slice (some ⟨hg, 0, none⟩) nf hc) (bs.map BD.hs) (by
         have h9 := (HF7.out.same hw).rows.1
         rw [List.length_map, HBN.out] at h9
         rw [← HNF.out]; exact h9) HLH.out q (by rw [← HNF.out]; exact hq))
        rw [← HNF.out] at HRC
        have HLPS : Hid (∀ (i : Nat) w', i < nf → KF w7 w' → ∃ lao ln lc', w'.cell? ⟨lg, i, none⟩ = some (.slice lao ln lc') ∧ (ln = 0 ↔ (bs.getD i bd0).loops = [])) := fun i w' hi hw => by
         have h9 := (HF7.out.same hw).rows.2
         rw [List.length_map, HBN.out] at h9
         obtain ⟨g9, c9, e9, h8⟩ := h9.look (by omega)
         cases e9
         obtain ⟨u, u1, u2⟩ := h8 w' (Kept.refl _ _) i hi
         obtain ⟨lao, lc', hus⟩ := ownsRow_shape u2
         have hib : i < bs.length := by rw [HBN.out]; exact hi
         have e8 : (bs.map BD.loops).getD i [] = (bs.getD i bd0).loops := by simp [List.getD, List.getElem?_eq_getElem hib]
         rw [e8] at hus
         subst hus
         exact ⟨lao, _, lc', u1, List.length_eq_zero_iff⟩
        go_wp2_with fail
        go_loopw [12, 13, 14] (fun bv sv iv wr => ∃ (i : Nat) (bd st : Bool), i ≤ nf ∧ bv = .bool bd ∧ sv = .bool st ∧ iv = .int .i64 (i : Int) ∧ Hid (KF w7 wr) ∧ Hid (bd = true ↔ ∀ j, j < i → lv.getD j false = true → ¬ Plus (cnx p (bs.map BD.hs)) j j) ∧ Hid (st = true ↔ ∀ j, j < i → lv.getD j false = true → (bs.getD j bd0).loops = [])) (fun _ _ iv _ => nf - (intOf iv).toNat)
        case atStart => exact ⟨0, true, true, by omega, rfl, rfl, rfl, Kept.refl _ _, ⟨fun _ j hj => by omega, fun _ => rfl⟩, ⟨fun _ j hj => by omega, fun _ => rfl⟩⟩
        case round =>
         obtain ⟨i, bd, st, hi, rfl, rfl, rfl, HKR, HBD, HSD⟩ := hrel
         have hb1 := box_kept (HF7.out.kept.trans HKR.out) HB1.out id
         have c0 := cell_block _ _ 0 _ _ _ hb1
         have c1 := cell_block _ _ 1 _ _ _ hb1
         have c2 := cell_block _ _ 2 _ _ _ hb1
         clear hb1
         by_cases hil : i < nf
         ·as_aux_lemma =>
           have hilI : (i : Int) < (nf : Int) := by omega
           obtain ⟨d0, d1, d2, d3, d4, d5⟩ := look6k (HF7.out.same HKR.out).box
           obtain ⟨l0, l1⟩ := rowB_at (HKR.out.ownsRow HLV.out (fun _ _ f => f)) HLL.out hil
           obtain ⟨lao, ln, lc', p0, p1⟩ := HLPS.out i wr hil HKR.out
           have HP1 := hid_of p1
           have HB2 : Hid (∀ z : Bool, (z = true ↔ (bd = true ∧ (lv.getD i false = true → ¬ Plus (cnx p (bs.map BD.hs)) i i))) → (z = true ↔ ∀ j, j < i + 1 → lv.getD j false = true → ¬ Plus (cnx p (bs.map BD.hs)) j j)) := fun z hz => by
            rw [hz, HBD.out]
            constructor
            ·rintro ⟨h1, h2⟩ j hj
             by_cases e : j = i
             ·subst e; exact h2
             ·exact h1 j (by omega)
            ·exact fun h1 => ⟨fun j hj => h1 j (by omega), h1 i (by omega)⟩
           have HS2 : Hid (∀ z : Bool, (z = true ↔ (st = true ∧ (lv.getD i false = true → (bs.getD i bd0).loops = []))) → (z = true ↔ ∀ j, j < i + 1 → lv.getD j false = true → (bs.getD j bd0).loops = [])) := fun z hz => by
            rw [hz, HSD.out]
            constructor
            ·rintro ⟨h1, h2⟩ j hj
             by_cases e : j = i
             ·subst e; exact h2
             ·exact h1 j (by omega)
            ·exact fun h1 => ⟨fun j hj => h1 j (by omega), h1 i (by omega)⟩
           have HRI := hid_of (HRC.out i hil wr HKR.out)
           clear p1 HRC HLPS HBD HSD
           generalize hlvi : lv.getD i false = li at *
           cases li with
           | false =>
            as_aux_lemma =>
             have HB3 := hid_of (HB2.out bd ⟨fun h => ⟨h, fun h => by cases h⟩, fun h => h.1⟩)
             have HS3 := hid_of (HS2.out st ⟨fun h => ⟨h, fun h => by cases h⟩, fun h => h.1⟩)
             clear HB2 HS2 HRI HP1 hlvi
             go_wp2
             go_roundw
             case rel => exact ⟨i + 1, bd, st, by omega, rfl, rfl, by go_num, HKR, HB3, HS3⟩
             case measure => simp [intOf]; omega
           | true =>
            as_aux_lemma =>
             have HHL := hid_of hlvi
             clear hlvi
             go_wp2_with fail
             refine HRI.out.mono ?_
             rintro e w9 ⟨gr, cr, rfl, hcr, hcrl, hcri, hk9⟩
             have HK9 := hid_of (HKR.out.trans hk9)
             obtain ⟨q0, q1⟩ := rowB_at hcr hcrl hil
             have hpl := hcri i hil
             have e0 := hk9.cell l0 id
             have e3 := hk9.cell d3 id
             have e2 := hk9.cell d2 id
             have ep := hk9.cell p0 id
             clear HRI hcr hcrl hcri hk9 c0 c1 c2 d0 d1 d2 d3 d4 d5 l0 l1 p0 HKR
             generalize hcb : cr.getD i false = cb at *
             clear hcb
             obtain ⟨bd', hbd'⟩ : ∃ z : Bool, z = (bd && !cb) := ⟨_, rfl⟩
             have HB3 := hid_of (HB2.out bd' (by
              rw [hbd']
              cases cb with
              | true => simp; intro _; exact hpl.1 rfl
              | false => simp; intro _ h; exact absurd (hpl.2 h) (by decide)))
             obtain ⟨st', hst'⟩ : ∃ z : Bool, z = (st && decide (ln = 0)) := ⟨_, rfl⟩
             have HS3 := hid_of (HS2.out st' (by rw [hst']; simp; intro _; exact HP1.out))
             have HBE := hid_of hbd'
             have HSE := hid_of hst'
             clear hpl HB2 HS2 HP1 hbd' hst'
             go_upto_if 137 with fail
             go_cut [12] from 116 to 151 (fun v12 wx => v12 = .bool bd' ∧ wx = w9)
             case first =>
              as_aux_lemma =>
               cases cb with
               | true =>
                go_wp2
                go_meet
                exact ⟨by rw [HBE.out]; simp, rfl⟩
               | false =>
                go_wp2
                go_meet
                exact ⟨by rw [HBE.out]; simp, rfl⟩
             case rest =>
              as_aux_lemma =>
               obtain ⟨rfl, hwc⟩ := hcut
               have hwc2 := hwc.symm
               clear hwc HBE
               subst hwc2
               by_cases hln : ln = 0
               ·have hst : st' = st := by rw [HSE.out, hln]; simp
                subst hln hst
                clear HSE
                go_wp2
                go_roundw
                case rel => exact ⟨i + 1, bd', st', by omega, rfl, rfl, by go_num, HK9, HB3, HS3⟩
                case measure => simp [intOf]; omega
               ·have hst : st' = false := by rw [HSE.out]; simp [hln]
                have hlnI : (0 : Int) < (ln : Int) := by omega
                subst hst
                clear HSE hln
                go_wp2
                go_roundw
                case rel => exact ⟨i + 1, bd', false, by omega, rfl, rfl, by go_num, HK9, HB3, HS3⟩
                case measure => simp [intOf]; omega
         ·as_aux_lemma =>
           have e : i = nf := by omega
           have hilI : ¬ ((i : Int) < (nf : Int)) := by omega
           rw [e] at HBD HSD
           have HBND : Hid (bd = true ↔ true ∉ (tourP (leadP bs) bs.length).again) := by
            constructor
            ·intro hb hag
             obtain ⟨j, hj, hp⟩ := (again_iff HBS.out).1 hag
             have hjl := (lead_tour HBS.out).2.1 _ hj
             have hbn := HBN.out
             exact HBD.out.1 hb j (by omega) ((HLI.out j (by omega)).2 hj) ((lead_plus HBS.out (by omega) j).1 hp)
            ·intro hno
             rw [HBD.out]
             intro j hj hl hp
             have hbn := HBN.out
             exact hno ((again_iff HBS.out).2 ⟨j, (HLI.out j hj).1 hl, (lead_plus HBS.out (by omega) j).2 hp⟩)
           have HSTD : Hid (st = true ↔ ∀ q : Nat, (q : Int) ∈ ordF bs → (bs.getD q bd0).loops = []) := by
            constructor
            ·intro h q hq
             have hql := (lead_tour HBS.out).2.1 _ hq
             have hbn := HBN.out
             exact HSD.out.1 h q (by omega) ((HLI.out q (by omega)).2 hq)
            ·intro h
             rw [HSD.out]
             exact fun j hj hl => h j ((HLI.out j hj).1 hl)
           obtain ⟨wA, hwA⟩ := nmd (wr)
           subst hwA
           have HFA := hid_of (HF7.out.same HKR.out)
           have HLA := hid_of (HKR.out.ownsRow HLV.out (fun _ _ f => f))
           have HSX : Hid (∀ w', KF wA w' → w'.cell? ⟨s, 0, none⟩ = some (.int .i64 mem) ∧ w'.cell? ⟨s, 1, none⟩ = some (.slice dao nd dc) ∧ w'.cell? ⟨s, 2, none⟩ = some (.slice (some ⟨pg, po, none⟩) nf fc)) := fun w' hw => by
            obtain ⟨z0, z1, z2, _⟩ := look3 (box_kept (HFA.out.kept.trans hw) HB1.out id)
            exact ⟨z0, z1, z2⟩
           clear HBD HSD HF7 HLV HKR HRC HLPS HLI e
           go_upto_region 37 with fail
           clear hilI c0 c1 c2
           go_cut [16] from 152 to 181 (fun v16 wx => ∃ g gC gT gI gW, v16 = .pointer (some ⟨g, 0, none⟩) ∧ Hid (Sm wA wx g gC gT gI gW nf #[.int .i64 mem, .slice dao nd dc, .slice (some ⟨pg, po, none⟩) nf fc, .slice (some ⟨hg, 0, none⟩) nf hc, .slice (some ⟨tg, 0, none⟩) nf tc, .slice (some ⟨lg, 0, none⟩) nf lc, .slice (some ⟨gl, 0, none⟩) nf nf, .int .i64 0, .int .i64 0, .slice (some ⟨gC, 0, none⟩) nf nf, .slice (some ⟨gT, 0, none⟩) nf nf, .slice (some ⟨gI, 0, none⟩) nf nf, .slice (some ⟨gW, 0, none⟩) nf nf] (List.replicate nf 0) (List.replicate nf 0) (List.replicate nf false) (List.replicate nf false)))
           case first =>
            refine wp_region_held_drew (S := fun w' => KF wA w') (by kernel_rfl) ((Kept.refl _ _).drew) (fun hHeld => ?_)
            have hKd : KF wA wA.drew := (Kept.refl _ _).drew
            have hs0 : wA.heap.size ≤ wA.drew.heap.size := hKd.size
            generalize wA.drew = wd at *
            iterate 1
             refine tkn (v := ?_) 0 rfl ?_ ?_; rotate_left 1
             ·intro w hSw; obtain ⟨z0, z1, z2⟩ := HSX.out w hSw; go_simp; try with_reducible rfl
             try simp only [Act.put, tdy]
            iterate 1
             refine tkn (v := ?_) 1 rfl ?_ ?_; rotate_left 1
             ·intro w hSw; obtain ⟨e0, e1, e2, e3, e4, e5⟩ := look6k (box_kept hSw HFA.out.box id); go_simp; try with_reducible rfl
             try simp only [Act.put, tdy]
            iterate 1
             refine tkn (v := ?_) 2 rfl ?_ ?_; rotate_left 1
             ·intro w hSw; obtain ⟨z0, z1, z2⟩ := HSX.out w hSw; go_simp; try with_reducible rfl
             try simp only [Act.put, tdy]
            iterate 1
             refine tkn (v := ?_) 4 rfl ?_ ?_; rotate_left 1
             ·intro w hSw; obtain ⟨z0, z1, z2⟩ := HSX.out w hSw; go_simp; try with_reducible rfl
             try simp only [Act.put, tdy]
            iterate 1
             refine tkn (v := ?_) 6 rfl ?_ ?_; rotate_left 1
             ·intro w hSw; obtain ⟨z0, z1, z2⟩ := HSX.out w hSw; go_simp; try with_reducible rfl
             try simp only [Act.put, tdy]
            iterate 1
             refine tkn (v := ?_) 8 rfl ?_ ?_; rotate_left 1
             ·intro w hSw; obtain ⟨z0, z1, z2⟩ := HSX.out w hSw; go_simp; try with_reducible rfl
             try simp only [Act.put, tdy]
            refine leaf_cut (fun w c t i g => L4 wA w nf c t i g) ?M ?h (fun LEAF0 => ?k)
            case k =>
             have LEAF := hid_of LEAF0
             clear LEAF0
             refine wpAnyH_ready (rs := [3, 5, 7, 9]) (by kernel_rfl) (by simp) ?_
             refine (AllReadyH.cons rfl (fun K hK => ?_) (AllReadyH.cons rfl (fun K hK => ?_) (AllReadyH.cons rfl (fun K hK => ?_) (AllReadyH.cons rfl (fun K hK => ?_) AllReadyH.nil))))
             ·have hmk := makeInt wd nf (by omega)
              go_simp
              refine hK.out _ _ (hHeld.alloc _) (fun hHeld => ?_)
              clear hK K hmk
              try simp only [Act.put, tdy]
              obtain ⟨wq0, gC, e1, e2, hka, hbb, hs3, hl3⟩ := al4 wd (zint nf) 3
              rw [← e1, ← e2]
              rw [← e1] at hHeld
              have HB33 := hid_of hbb
              clear hbb hka e1 e2
              refine wpAnyH_ready (rs := [5, 7, 9]) (by kernel_rfl) (by simp) ?_
              refine (AllReadyH.cons rfl (fun K hK => ?_) (AllReadyH.cons rfl (fun K hK => ?_) (AllReadyH.cons rfl (fun K hK => ?_) AllReadyH.nil)))
              ·have hmk := makeInt wq0 nf (by omega)
               go_simp
               refine hK.out _ _ (hHeld.alloc _) (fun hHeld => ?_)
               clear hK K hmk
               try simp only [Act.put, tdy]
               obtain ⟨wq1, gT, e1, e2, hka, hbb, hs5, hl5⟩ := al4 wq0 (zint nf) 3
               rw [← e1, ← e2]
               rw [← e1] at hHeld
               replace HB33 := hid_of (box_kept hka HB33.out id)
               have HB55 := hid_of hbb
               clear hbb hka e1 e2
               refine wpAnyH_ready (rs := [7, 9]) (by kernel_rfl) (by simp) ?_
               refine (AllReadyH.cons rfl (fun K hK => ?_) (AllReadyH.cons rfl (fun K hK => ?_) AllReadyH.nil))
               ·have hmk := makeBool wq1 nf (by omega)
                go_simp
                refine hK.out _ _ (hHeld.alloc _) (fun hHeld => ?_)
                clear hK K hmk
                try simp only [Act.put, tdy]
                obtain ⟨wq2, gI, e1, e2, hka, hbb, hs7, hl7⟩ := al4 wq1 (zbool nf) 4
                rw [← e1, ← e2]
                rw [← e1] at hHeld
                replace HB33 := hid_of (box_kept hka HB33.out id)
                replace HB55 := hid_of (box_kept hka HB55.out id)
                have HB77 := hid_of hbb
                clear hbb hka e1 e2
                refine rdy 9 rfl (fun K hK => ?_)
                have hmk := makeBool wq2 nf (by omega)
                go_simp
                refine hK.out _ _ (hHeld.alloc _) (fun hHeld => ?_)
                clear hK K hmk
                try simp only [Act.put, tdy]
                obtain ⟨wq3, gW, e1, e2, hka, hbb, hs9, hl9⟩ := al4 wq2 (zbool nf) 4
                rw [← e1, ← e2]
                rw [← e1] at hHeld
                replace HB33 := hid_of (box_kept hka HB33.out id)
                replace HB55 := hid_of (box_kept hka HB55.out id)
                replace HB77 := hid_of (box_kept hka HB77.out id)
                have HB99 := hid_of hbb
                clear hbb hka e1 e2
                exact LEAF.out _ _ _ _ _ ⟨hHeld, HB33.out, HB55.out, HB77.out, HB99.out, by omega, by omega⟩
               ·have hmk := makeBool wq1 nf (by omega)
                go_simp
                refine hK.out _ _ (hHeld.alloc _) (fun hHeld => ?_)
                clear hK K hmk
                try simp only [Act.put, tdy]
                obtain ⟨wq2, gW, e1, e2, hka, hbb, hs9, hl9⟩ := al4 wq1 (zbool nf) 4
                rw [← e1, ← e2]
                rw [← e1] at hHeld
                replace HB33 := hid_of (box_kept hka HB33.out id)
                replace HB55 := hid_of (box_kept hka HB55.out id)
                have HB99 := hid_of hbb
                clear hbb hka e1 e2
                refine rdy 7 rfl (fun K hK => ?_)
                have hmk := makeBool wq2 nf (by omega)
                go_simp
                refine hK.out _ _ (hHeld.alloc _) (fun hHeld => ?_)
                clear hK K hmk
                try simp only [Act.put, tdy]
                obtain ⟨wq3, gI, e1, e2, hka, hbb, hs7, hl7⟩ := al4 wq2 (zbool nf) 4
                rw [← e1, ← e2]
                rw [← e1] at hHeld
                replace HB33 := hid_of (box_kept hka HB33.out id)
                replace HB55 := hid_of (box_kept hka HB55.out id)
                replace HB99 := hid_of (box_kept hka HB99.out id)
                have HB77 := hid_of hbb
                clear hbb hka e1 e2
                exact LEAF.out _ _ _ _ _ ⟨hHeld, HB33.out, HB55.out, HB77.out, HB99.out, by omega, by omega⟩
              ·have hmk := makeBool wq0 nf (by omega)
               go_simp
               refine hK.out _ _ (hHeld.alloc _) (fun hHeld => ?_)
               clear hK K hmk
               try simp only [Act.put, tdy]
               obtain ⟨wq1, gI, e1, e2, hka, hbb, hs7, hl7⟩ := al4 wq0 (zbool nf) 4
               rw [← e1, ← e2]
               rw [← e1] at hHeld
               replace HB33 := hid_of (box_kept hka HB33.out id)
               have HB77 := hid_of hbb
               clear hbb hka e1 e2
               refine wpAnyH_ready (rs := [5, 9]) (by kernel_rfl) (by simp) ?_
               refine (AllReadyH.cons rfl (fun K hK => ?_) (AllReadyH.cons rfl (fun K hK => ?_) AllReadyH.nil))
               ·have hmk := makeInt wq1 nf (by omega)
                go_simp
                refine hK.out _ _ (hHeld.alloc _) (fun hHeld => ?_)
                clear hK K hmk
                try simp only [Act.put, tdy]
                obtain ⟨wq2, gT, e1, e2, hka, hbb, hs5, hl5⟩ := al4 wq1 (zint nf) 3
                rw [← e1, ← e2]
                rw [← e1] at hHeld
                replace HB33 := hid_of (box_kept hka HB33.out id)
                replace HB77 := hid_of (box_kept hka HB77.out id)
                have HB55 := hid_of hbb
                clear hbb hka e1 e2
                refine rdy 9 rfl (fun K hK => ?_)
                have hmk := makeBool wq2 nf (by omega)
                go_simp
                refine hK.out _ _ (hHeld.alloc _) (fun hHeld => ?_)
                clear hK K hmk
                try simp only [Act.put, tdy]
                obtain ⟨wq3, gW, e1, e2, hka, hbb, hs9, hl9⟩ := al4 wq2 (zbool nf) 4
                rw [← e1, ← e2]
                rw [← e1] at hHeld
                replace HB33 := hid_of (box_kept hka HB33.out id)
                replace HB77 := hid_of (box_kept hka HB77.out id)
                replace HB55 := hid_of (box_kept hka HB55.out id)
                have HB99 := hid_of hbb
                clear hbb hka e1 e2
                exact LEAF.out _ _ _ _ _ ⟨hHeld, HB33.out, HB55.out, HB77.out, HB99.out, by omega, by omega⟩
               ·have hmk := makeBool wq1 nf (by omega)
                go_simp
                refine hK.out _ _ (hHeld.alloc _) (fun hHeld => ?_)
                clear hK K hmk
                try simp only [Act.put, tdy]
                obtain ⟨wq2, gW, e1, e2, hka, hbb, hs9, hl9⟩ := al4 wq1 (zbool nf) 4
                rw [← e1, ← e2]
                rw [← e1] at hHeld
                replace HB33 := hid_of (box_kept hka HB33.out id)
                replace HB77 := hid_of (box_kept hka HB77.out id)
                have HB99 := hid_of hbb
                clear hbb hka e1 e2
                refine rdy 5 rfl (fun K hK => ?_)
                have hmk := makeInt wq2 nf (by omega)
                go_simp
                refine hK.out _ _ (hHeld.alloc _) (fun hHeld => ?_)
                clear hK K hmk
                try simp only [Act.put, tdy]
                obtain ⟨wq3, gT, e1, e2, hka, hbb, hs5, hl5⟩ := al4 wq2 (zint nf) 3
                rw [← e1, ← e2]
                rw [← e1] at hHeld
                replace HB33 := hid_of (box_kept hka HB33.out id)
                replace HB77 := hid_of (box_kept hka HB77.out id)
                replace HB99 := hid_of (box_kept hka HB99.out id)
                have HB55 := hid_of hbb
                clear hbb hka e1 e2
                exact LEAF.out _ _ _ _ _ ⟨hHeld, HB33.out, HB55.out, HB77.out, HB99.out, by omega, by omega⟩
              ·have hmk := makeBool wq0 nf (by omega)
               go_simp
               refine hK.out _ _ (hHeld.alloc _) (fun hHeld => ?_)
               clear hK K hmk
               try simp only [Act.put, tdy]
               obtain ⟨wq1, gW, e1, e2, hka, hbb, hs9, hl9⟩ := al4 wq0 (zbool nf) 4
               rw [← e1, ← e2]
               rw [← e1] at hHeld
               replace HB33 := hid_of (box_kept hka HB33.out id)
               have HB99 := hid_of hbb
               clear hbb hka e1 e2
               refine wpAnyH_ready (rs := [5, 7]) (by kernel_rfl) (by simp) ?_
               refine (AllReadyH.cons rfl (fun K hK => ?_) (AllReadyH.cons rfl (fun K hK => ?_) AllReadyH.nil))
               ·have hmk := makeInt wq1 nf (by omega)
                go_simp
                refine hK.out _ _ (hHeld.alloc _) (fun hHeld => ?_)
                clear hK K hmk
                try simp only [Act.put, tdy]
                obtain ⟨wq2, gT, e1, e2, hka, hbb, hs5, hl5⟩ := al4 wq1 (zint nf) 3
                rw [← e1, ← e2]
                rw [← e1] at hHeld
                replace HB33 := hid_of (box_kept hka HB33.out id)
                replace HB99 := hid_of (box_kept hka HB99.out id)
                have HB55 := hid_of hbb
                clear hbb hka e1 e2
                refine rdy 7 rfl (fun K hK => ?_)
                have hmk := makeBool wq2 nf (by omega)
                go_simp
                refine hK.out _ _ (hHeld.alloc _) (fun hHeld => ?_)
                clear hK K hmk
                try simp only [Act.put, tdy]
                obtain ⟨wq3, gI, e1, e2, hka, hbb, hs7, hl7⟩ := al4 wq2 (zbool nf) 4
                rw [← e1, ← e2]
                rw [← e1] at hHeld
                replace HB33 := hid_of (box_kept hka HB33.out id)
                replace HB99 := hid_of (box_kept hka HB99.out id)
                replace HB55 := hid_of (box_kept hka HB55.out id)
                have HB77 := hid_of hbb
                clear hbb hka e1 e2
                exact LEAF.out _ _ _ _ _ ⟨hHeld, HB33.out, HB55.out, HB77.out, HB99.out, by omega, by omega⟩
               ·have hmk := makeBool wq1 nf (by omega)
                go_simp
                refine hK.out _ _ (hHeld.alloc _) (fun hHeld => ?_)
                clear hK K hmk
                try simp only [Act.put, tdy]
                obtain ⟨wq2, gI, e1, e2, hka, hbb, hs7, hl7⟩ := al4 wq1 (zbool nf) 4
                rw [← e1, ← e2]
                rw [← e1] at hHeld
                replace HB33 := hid_of (box_kept hka HB33.out id)
                replace HB99 := hid_of (box_kept hka HB99.out id)
                have HB77 := hid_of hbb
                clear hbb hka e1 e2
                refine rdy 5 rfl (fun K hK => ?_)
                have hmk := makeInt wq2 nf (by omega)
                go_simp
                refine hK.out _ _ (hHeld.alloc _) (fun hHeld => ?_)
                clear hK K hmk
                try simp only [Act.put, tdy]
                obtain ⟨wq3, gT, e1, e2, hka, hbb, hs5, hl5⟩ := al4 wq2 (zint nf) 3
                rw [← e1, ← e2]
                rw [← e1] at hHeld
                replace HB33 := hid_of (box_kept hka HB33.out id)
                replace HB99 := hid_of (box_kept hka HB99.out id)
                replace HB77 := hid_of (box_kept hka HB77.out id)
                have HB55 := hid_of hbb
                clear hbb hka e1 e2
                exact LEAF.out _ _ _ _ _ ⟨hHeld, HB33.out, HB55.out, HB77.out, HB99.out, by omega, by omega⟩
             ·have hmk := makeInt wd nf (by omega)
              go_simp
              refine hK.out _ _ (hHeld.alloc _) (fun hHeld => ?_)
              clear hK K hmk
              try simp only [Act.put, tdy]
              obtain ⟨wq0, gT, e1, e2, hka, hbb, hs5, hl5⟩ := al4 wd (zint nf) 3
              rw [← e1, ← e2]
              rw [← e1] at hHeld
              have HB55 := hid_of hbb
              clear hbb hka e1 e2
              refine wpAnyH_ready (rs := [3, 7, 9]) (by kernel_rfl) (by simp) ?_
              refine (AllReadyH.cons rfl (fun K hK => ?_) (AllReadyH.cons rfl (fun K hK => ?_) (AllReadyH.cons rfl (fun K hK => ?_) AllReadyH.nil)))
              ·have hmk := makeInt wq0 nf (by omega)
               go_simp
               refine hK.out _ _ (hHeld.alloc _) (fun hHeld => ?_)
               clear hK K hmk
               try simp only [Act.put, tdy]
               obtain ⟨wq1, gC, e1, e2, hka, hbb, hs3, hl3⟩ := al4 wq0 (zint nf) 3
               rw [← e1, ← e2]
               rw [← e1] at hHeld
               replace HB55 := hid_of (box_kept hka HB55.out id)
               have HB33 := hid_of hbb
               clear hbb hka e1 e2
               refine wpAnyH_ready (rs := [7, 9]) (by kernel_rfl) (by simp) ?_
               refine (AllReadyH.cons rfl (fun K hK => ?_) (AllReadyH.cons rfl (fun K hK => ?_) AllReadyH.nil))
               ·have hmk := makeBool wq1 nf (by omega)
                go_simp
                refine hK.out _ _ (hHeld.alloc _) (fun hHeld => ?_)
                clear hK K hmk
                try simp only [Act.put, tdy]
                obtain ⟨wq2, gI, e1, e2, hka, hbb, hs7, hl7⟩ := al4 wq1 (zbool nf) 4
                rw [← e1, ← e2]
                rw [← e1] at hHeld
                replace HB55 := hid_of (box_kept hka HB55.out id)
                replace HB33 := hid_of (box_kept hka HB33.out id)
                have HB77 := hid_of hbb
                clear hbb hka e1 e2
                refine rdy 9 rfl (fun K hK => ?_)
                have hmk := makeBool wq2 nf (by omega)
                go_simp
                refine hK.out _ _ (hHeld.alloc _) (fun hHeld => ?_)
                clear hK K hmk
                try simp only [Act.put, tdy]
                obtain ⟨wq3, gW, e1, e2, hka, hbb, hs9, hl9⟩ := al4 wq2 (zbool nf) 4
                rw [← e1, ← e2]
                rw [← e1] at hHeld
                replace HB55 := hid_of (box_kept hka HB55.out id)
                replace HB33 := hid_of (box_kept hka HB33.out id)
                replace HB77 := hid_of (box_kept hka HB77.out id)
                have HB99 := hid_of hbb
                clear hbb hka e1 e2
                exact LEAF.out _ _ _ _ _ ⟨hHeld, HB33.out, HB55.out, HB77.out, HB99.out, by omega, by omega⟩
               ·have hmk := makeBool wq1 nf (by omega)
                go_simp
                refine hK.out _ _ (hHeld.alloc _) (fun hHeld => ?_)
                clear hK K hmk
                try simp only [Act.put, tdy]
                obtain ⟨wq2, gW, e1, e2, hka, hbb, hs9, hl9⟩ := al4 wq1 (zbool nf) 4
                rw [← e1, ← e2]
                rw [← e1] at hHeld
                replace HB55 := hid_of (box_kept hka HB55.out id)
                replace HB33 := hid_of (box_kept hka HB33.out id)
                have HB99 := hid_of hbb
                clear hbb hka e1 e2
                refine rdy 7 rfl (fun K hK => ?_)
                have hmk := makeBool wq2 nf (by omega)
                go_simp
                refine hK.out _ _ (hHeld.alloc _) (fun hHeld => ?_)
                clear hK K hmk
                try simp only [Act.put, tdy]
                obtain ⟨wq3, gI, e1, e2, hka, hbb, hs7, hl7⟩ := al4 wq2 (zbool nf) 4
                rw [← e1, ← e2]
                rw [← e1] at hHeld
                replace HB55 := hid_of (box_kept hka HB55.out id)
                replace HB33 := hid_of (box_kept hka HB33.out id)
                replace HB99 := hid_of (box_kept hka HB99.out id)
                have HB77 := hid_of hbb
                clear hbb hka e1 e2
                exact LEAF.out _ _ _ _ _ ⟨hHeld, HB33.out, HB55.out, HB77.out, HB99.out, by omega, by omega⟩
              ·have hmk := makeBool wq0 nf (by omega)
               go_simp
               refine hK.out _ _ (hHeld.alloc _) (fun hHeld => ?_)
               clear hK K hmk
               try simp only [Act.put, tdy]
               obtain ⟨wq1, gI, e1, e2, hka, hbb, hs7, hl7⟩ := al4 wq0 (zbool nf) 4
               rw [← e1, ← e2]
               rw [← e1] at hHeld
               replace HB55 := hid_of (box_kept hka HB55.out id)
               have HB77 := hid_of hbb
               clear hbb hka e1 e2
               refine wpAnyH_ready (rs := [3, 9]) (by kernel_rfl) (by simp) ?_
               refine (AllReadyH.cons rfl (fun K hK => ?_) (AllReadyH.cons rfl (fun K hK => ?_) AllReadyH.nil))
               ·have hmk := makeInt wq1 nf (by omega)
                go_simp
                refine hK.out _ _ (hHeld.alloc _) (fun hHeld => ?_)
                clear hK K hmk
                try simp only [Act.put, tdy]
                obtain ⟨wq2, gC, e1, e2, hka, hbb, hs3, hl3⟩ := al4 wq1 (zint nf) 3
                rw [← e1, ← e2]
                rw [← e1] at hHeld
                replace HB55 := hid_of (box_kept hka HB55.out id)
                replace HB77 := hid_of (box_kept hka HB77.out id)
                have HB33 := hid_of hbb
                clear hbb hka e1 e2
                refine rdy 9 rfl (fun K hK => ?_)
                have hmk := makeBool wq2 nf (by omega)
                go_simp
                refine hK.out _ _ (hHeld.alloc _) (fun hHeld => ?_)
                clear hK K hmk
                try simp only [Act.put, tdy]
                obtain ⟨wq3, gW, e1, e2, hka, hbb, hs9, hl9⟩ := al4 wq2 (zbool nf) 4
                rw [← e1, ← e2]
                rw [← e1] at hHeld
                replace HB55 := hid_of (box_kept hka HB55.out id)
                replace HB77 := hid_of (box_kept hka HB77.out id)
                replace HB33 := hid_of (box_kept hka HB33.out id)
                have HB99 := hid_of hbb
                clear hbb hka e1 e2
                exact LEAF.out _ _ _ _ _ ⟨hHeld, HB33.out, HB55.out, HB77.out, HB99.out, by omega, by omega⟩
               ·have hmk := makeBool wq1 nf (by omega)
                go_simp
                refine hK.out _ _ (hHeld.alloc _) (fun hHeld => ?_)
                clear hK K hmk
                try simp only [Act.put, tdy]
                obtain ⟨wq2, gW, e1, e2, hka, hbb, hs9, hl9⟩ := al4 wq1 (zbool nf) 4
                rw [← e1, ← e2]
                rw [← e1] at hHeld
                replace HB55 := hid_of (box_kept hka HB55.out id)
                replace HB77 := hid_of (box_kept hka HB77.out id)
                have HB99 := hid_of hbb
                clear hbb hka e1 e2
                refine rdy 3 rfl (fun K hK => ?_)
                have hmk := makeInt wq2 nf (by omega)
                go_simp
                refine hK.out _ _ (hHeld.alloc _) (fun hHeld => ?_)
                clear hK K hmk
                try simp only [Act.put, tdy]
                obtain ⟨wq3, gC, e1, e2, hka, hbb, hs3, hl3⟩ := al4 wq2 (zint nf) 3
                rw [← e1, ← e2]
                rw [← e1] at hHeld
                replace HB55 := hid_of (box_kept hka HB55.out id)
                replace HB77 := hid_of (box_kept hka HB77.out id)
                replace HB99 := hid_of (box_kept hka HB99.out id)
                have HB33 := hid_of hbb
                clear hbb hka e1 e2
                exact LEAF.out _ _ _ _ _ ⟨hHeld, HB33.out, HB55.out, HB77.out, HB99.out, by omega, by omega⟩
              ·have hmk := makeBool wq0 nf (by omega)
               go_simp
               refine hK.out _ _ (hHeld.alloc _) (fun hHeld => ?_)
               clear hK K hmk
               try simp only [Act.put, tdy]
               obtain ⟨wq1, gW, e1, e2, hka, hbb, hs9, hl9⟩ := al4 wq0 (zbool nf) 4
               rw [← e1, ← e2]
               rw [← e1] at hHeld
               replace HB55 := hid_of (box_kept hka HB55.out id)
               have HB99 := hid_of hbb
               clear hbb hka e1 e2
               refine wpAnyH_ready (rs := [3, 7]) (by kernel_rfl) (by simp) ?_
               refine (AllReadyH.cons rfl (fun K hK => ?_) (AllReadyH.cons rfl (fun K hK => ?_) AllReadyH.nil))
               ·have hmk := makeInt wq1 nf (by omega)
                go_simp
                refine hK.out _ _ (hHeld.alloc _) (fun hHeld => ?_)
                clear hK K hmk
                try simp only [Act.put, tdy]
                obtain ⟨wq2, gC, e1, e2, hka, hbb, hs3, hl3⟩ := al4 wq1 (zint nf) 3
                rw [← e1, ← e2]
                rw [← e1] at hHeld
                replace HB55 := hid_of (box_kept hka HB55.out id)
                replace HB99 := hid_of (box_kept hka HB99.out id)
                have HB33 := hid_of hbb
                clear hbb hka e1 e2
                refine rdy 7 rfl (fun K hK => ?_)
                have hmk := makeBool wq2 nf (by omega)
                go_simp
                refine hK.out _ _ (hHeld.alloc _) (fun hHeld => ?_)
                clear hK K hmk
                try simp only [Act.put, tdy]
                obtain ⟨wq3, gI, e1, e2, hka, hbb, hs7, hl7⟩ := al4 wq2 (zbool nf) 4
                rw [← e1, ← e2]
                rw [← e1] at hHeld
                replace HB55 := hid_of (box_kept hka HB55.out id)
                replace HB99 := hid_of (box_kept hka HB99.out id)
                replace HB33 := hid_of (box_kept hka HB33.out id)
                have HB77 := hid_of hbb
                clear hbb hka e1 e2
                exact LEAF.out _ _ _ _ _ ⟨hHeld, HB33.out, HB55.out, HB77.out, HB99.out, by omega, by omega⟩
               ·have hmk := makeBool wq1 nf (by omega)
                go_simp
                refine hK.out _ _ (hHeld.alloc _) (fun hHeld => ?_)
                clear hK K hmk
                try simp only [Act.put, tdy]
                obtain ⟨wq2, gI, e1, e2, hka, hbb, hs7, hl7⟩ := al4 wq1 (zbool nf) 4
                rw [← e1, ← e2]
                rw [← e1] at hHeld
                replace HB55 := hid_of (box_kept hka HB55.out id)
                replace HB99 := hid_of (box_kept hka HB99.out id)
                have HB77 := hid_of hbb
                clear hbb hka e1 e2
                refine rdy 3 rfl (fun K hK => ?_)
                have hmk := makeInt wq2 nf (by omega)
                go_simp
                refine hK.out _ _ (hHeld.alloc _) (fun hHeld => ?_)
                clear hK K hmk
                try simp only [Act.put, tdy]
                obtain ⟨wq3, gC, e1, e2, hka, hbb, hs3, hl3⟩ := al4 wq2 (zint nf) 3
                rw [← e1, ← e2]
                rw [← e1] at hHeld
                replace HB55 := hid_of (box_kept hka HB55.out id)
                replace HB99 := hid_of (box_kept hka HB99.out id)
                replace HB77 := hid_of (box_kept hka HB77.out id)
                have HB33 := hid_of hbb
                clear hbb hka e1 e2
                exact LEAF.out _ _ _ _ _ ⟨hHeld, HB33.out, HB55.out, HB77.out, HB99.out, by omega, by omega⟩
             ·have hmk := makeBool wd nf (by omega)
              go_simp
              refine hK.out _ _ (hHeld.alloc _) (fun hHeld => ?_)
              clear hK K hmk
              try simp only [Act.put, tdy]
              obtain ⟨wq0, gI, e1, e2, hka, hbb, hs7, hl7⟩ := al4 wd (zbool nf) 4
              rw [← e1, ← e2]
              rw [← e1] at hHeld
              have HB77 := hid_of hbb
              clear hbb hka e1 e2
              refine wpAnyH_ready (rs := [3, 5, 9]) (by kernel_rfl) (by simp) ?_
              refine (AllReadyH.cons rfl (fun K hK => ?_) (AllReadyH.cons rfl (fun K hK => ?_) (AllReadyH.cons rfl (fun K hK => ?_) AllReadyH.nil)))
              ·have hmk := makeInt wq0 nf (by omega)
               go_simp
               refine hK.out _ _ (hHeld.alloc _) (fun hHeld => ?_)
               clear hK K hmk
               try simp only [Act.put, tdy]
               obtain ⟨wq1, gC, e1, e2, hka, hbb, hs3, hl3⟩ := al4 wq0 (zint nf) 3
               rw [← e1, ← e2]
               rw [← e1] at hHeld
               replace HB77 := hid_of (box_kept hka HB77.out id)
               have HB33 := hid_of hbb
               clear hbb hka e1 e2
               refine wpAnyH_ready (rs := [5, 9]) (by kernel_rfl) (by simp) ?_
               refine (AllReadyH.cons rfl (fun K hK => ?_) (AllReadyH.cons rfl (fun K hK => ?_) AllReadyH.nil))
               ·have hmk := makeInt wq1 nf (by omega)
                go_simp
                refine hK.out _ _ (hHeld.alloc _) (fun hHeld => ?_)
                clear hK K hmk
                try simp only [Act.put, tdy]
                obtain ⟨wq2, gT, e1, e2, hka, hbb, hs5, hl5⟩ := al4 wq1 (zint nf) 3
                rw [← e1, ← e2]
                rw [← e1] at hHeld
                replace HB77 := hid_of (box_kept hka HB77.out id)
                replace HB33 := hid_of (box_kept hka HB33.out id)
                have HB55 := hid_of hbb
                clear hbb hka e1 e2
                refine rdy 9 rfl (fun K hK => ?_)
                have hmk := makeBool wq2 nf (by omega)
                go_simp
                refine hK.out _ _ (hHeld.alloc _) (fun hHeld => ?_)
                clear hK K hmk
                try simp only [Act.put, tdy]
                obtain ⟨wq3, gW, e1, e2, hka, hbb, hs9, hl9⟩ := al4 wq2 (zbool nf) 4
                rw [← e1, ← e2]
                rw [← e1] at hHeld
                replace HB77 := hid_of (box_kept hka HB77.out id)
                replace HB33 := hid_of (box_kept hka HB33.out id)
                replace HB55 := hid_of (box_kept hka HB55.out id)
                have HB99 := hid_of hbb
                clear hbb hka e1 e2
                exact LEAF.out _ _ _ _ _ ⟨hHeld, HB33.out, HB55.out, HB77.out, HB99.out, by omega, by omega⟩
               ·have hmk := makeBool wq1 nf (by omega)
                go_simp
                refine hK.out _ _ (hHeld.alloc _) (fun hHeld => ?_)
                clear hK K hmk
                try simp only [Act.put, tdy]
                obtain ⟨wq2, gW, e1, e2, hka, hbb, hs9, hl9⟩ := al4 wq1 (zbool nf) 4
                rw [← e1, ← e2]
                rw [← e1] at hHeld
                replace HB77 := hid_of (box_kept hka HB77.out id)
                replace HB33 := hid_of (box_kept hka HB33.out id)
                have HB99 := hid_of hbb
                clear hbb hka e1 e2
                refine rdy 5 rfl (fun K hK => ?_)
                have hmk := makeInt wq2 nf (by omega)
                go_simp
                refine hK.out _ _ (hHeld.alloc _) (fun hHeld => ?_)
                clear hK K hmk
                try simp only [Act.put, tdy]
                obtain ⟨wq3, gT, e1, e2, hka, hbb, hs5, hl5⟩ := al4 wq2 (zint nf) 3
                rw [← e1, ← e2]
                rw [← e1] at hHeld
                replace HB77 := hid_of (box_kept hka HB77.out id)
                replace HB33 := hid_of (box_kept hka HB33.out id)
                replace HB99 := hid_of (box_kept hka HB99.out id)
                have HB55 := hid_of hbb
                clear hbb hka e1 e2
                exact LEAF.out _ _ _ _ _ ⟨hHeld, HB33.out, HB55.out, HB77.out, HB99.out, by omega, by omega⟩
              ·have hmk := makeInt wq0 nf (by omega)
               go_simp
               refine hK.out _ _ (hHeld.alloc _) (fun hHeld => ?_)
               clear hK K hmk
               try simp only [Act.put, tdy]
               obtain ⟨wq1, gT, e1, e2, hka, hbb, hs5, hl5⟩ := al4 wq0 (zint nf) 3
               rw [← e1, ← e2]
               rw [← e1] at hHeld
               replace HB77 := hid_of (box_kept hka HB77.out id)
               have HB55 := hid_of hbb
               clear hbb hka e1 e2
               refine wpAnyH_ready (rs := [3, 9]) (by kernel_rfl) (by simp) ?_
               refine (AllReadyH.cons rfl (fun K hK => ?_) (AllReadyH.cons rfl (fun K hK => ?_) AllReadyH.nil))
               ·have hmk := makeInt wq1 nf (by omega)
                go_simp
                refine hK.out _ _ (hHeld.alloc _) (fun hHeld => ?_)
                clear hK K hmk
                try simp only [Act.put, tdy]
                obtain ⟨wq2, gC, e1, e2, hka, hbb, hs3, hl3⟩ := al4 wq1 (zint nf) 3
                rw [← e1, ← e2]
                rw [← e1] at hHeld
                replace HB77 := hid_of (box_kept hka HB77.out id)
                replace HB55 := hid_of (box_kept hka HB55.out id)
                have HB33 := hid_of hbb
                clear hbb hka e1 e2
                refine rdy 9 rfl (fun K hK => ?_)
                have hmk := makeBool wq2 nf (by omega)
                go_simp
                refine hK.out _ _ (hHeld.alloc _) (fun hHeld => ?_)
                clear hK K hmk
                try simp only [Act.put, tdy]
                obtain ⟨wq3, gW, e1, e2, hka, hbb, hs9, hl9⟩ := al4 wq2 (zbool nf) 4
                rw [← e1, ← e2]
                rw [← e1] at hHeld
                replace HB77 := hid_of (box_kept hka HB77.out id)
                replace HB55 := hid_of (box_kept hka HB55.out id)
                replace HB33 := hid_of (box_kept hka HB33.out id)
                have HB99 := hid_of hbb
                clear hbb hka e1 e2
                exact LEAF.out _ _ _ _ _ ⟨hHeld, HB33.out, HB55.out, HB77.out, HB99.out, by omega, by omega⟩
               ·have hmk := makeBool wq1 nf (by omega)
                go_simp
                refine hK.out _ _ (hHeld.alloc _) (fun hHeld => ?_)
                clear hK K hmk
                try simp only [Act.put, tdy]
                obtain ⟨wq2, gW, e1, e2, hka, hbb, hs9, hl9⟩ := al4 wq1 (zbool nf) 4
                rw [← e1, ← e2]
                rw [← e1] at hHeld
                replace HB77 := hid_of (box_kept hka HB77.out id)
                replace HB55 := hid_of (box_kept hka HB55.out id)
                have HB99 := hid_of hbb
                clear hbb hka e1 e2
                refine rdy 3 rfl (fun K hK => ?_)
                have hmk := makeInt wq2 nf (by omega)
                go_simp
                refine hK.out _ _ (hHeld.alloc _) (fun hHeld => ?_)
                clear hK K hmk
                try simp only [Act.put, tdy]
                obtain ⟨wq3, gC, e1, e2, hka, hbb, hs3, hl3⟩ := al4 wq2 (zint nf) 3
                rw [← e1, ← e2]
                rw [← e1] at hHeld
                replace HB77 := hid_of (box_kept hka HB77.out id)
                replace HB55 := hid_of (box_kept hka HB55.out id)
                replace HB99 := hid_of (box_kept hka HB99.out id)
                have HB33 := hid_of hbb
                clear hbb hka e1 e2
                exact LEAF.out _ _ _ _ _ ⟨hHeld, HB33.out, HB55.out, HB77.out, HB99.out, by omega, by omega⟩
              ·have hmk := makeBool wq0 nf (by omega)
               go_simp
               refine hK.out _ _ (hHeld.alloc _) (fun hHeld => ?_)
               clear hK K hmk
               try simp only [Act.put, tdy]
               obtain ⟨wq1, gW, e1, e2, hka, hbb, hs9, hl9⟩ := al4 wq0 (zbool nf) 4
               rw [← e1, ← e2]
               rw [← e1] at hHeld
               replace HB77 := hid_of (box_kept hka HB77.out id)
               have HB99 := hid_of hbb
               clear hbb hka e1 e2
               refine wpAnyH_ready (rs := [3, 5]) (by kernel_rfl) (by simp) ?_
               refine (AllReadyH.cons rfl (fun K hK => ?_) (AllReadyH.cons rfl (fun K hK => ?_) AllReadyH.nil))
               ·have hmk := makeInt wq1 nf (by omega)
                go_simp
                refine hK.out _ _ (hHeld.alloc _) (fun hHeld => ?_)
                clear hK K hmk
                try simp only [Act.put, tdy]
                obtain ⟨wq2, gC, e1, e2, hka, hbb, hs3, hl3⟩ := al4 wq1 (zint nf) 3
                rw [← e1, ← e2]
                rw [← e1] at hHeld
                replace HB77 := hid_of (box_kept hka HB77.out id)
                replace HB99 := hid_of (box_kept hka HB99.out id)
                have HB33 := hid_of hbb
                clear hbb hka e1 e2
                refine rdy 5 rfl (fun K hK => ?_)
                have hmk := makeInt wq2 nf (by omega)
                go_simp
                refine hK.out _ _ (hHeld.alloc _) (fun hHeld => ?_)
                clear hK K hmk
                try simp only [Act.put, tdy]
                obtain ⟨wq3, gT, e1, e2, hka, hbb, hs5, hl5⟩ := al4 wq2 (zint nf) 3
                rw [← e1, ← e2]
                rw [← e1] at hHeld
                replace HB77 := hid_of (box_kept hka HB77.out id)
                replace HB99 := hid_of (box_kept hka HB99.out id)
                replace HB33 := hid_of (box_kept hka HB33.out id)
                have HB55 := hid_of hbb
                clear hbb hka e1 e2
                exact LEAF.out _ _ _ _ _ ⟨hHeld, HB33.out, HB55.out, HB77.out, HB99.out, by omega, by omega⟩
               ·have hmk := makeInt wq1 nf (by omega)
                go_simp
                refine hK.out _ _ (hHeld.alloc _) (fun hHeld => ?_)
                clear hK K hmk
                try simp only [Act.put, tdy]
                obtain ⟨wq2, gT, e1, e2, hka, hbb, hs5, hl5⟩ := al4 wq1 (zint nf) 3
                rw [← e1, ← e2]
                rw [← e1] at hHeld
                replace HB77 := hid_of (box_kept hka HB77.out id)
                replace HB99 := hid_of (box_kept hka HB99.out id)
                have HB55 := hid_of hbb
                clear hbb hka e1 e2
                refine rdy 3 rfl (fun K hK => ?_)
                have hmk := makeInt wq2 nf (by omega)
                go_simp
                refine hK.out _ _ (hHeld.alloc _) (fun hHeld => ?_)
                clear hK K hmk
                try simp only [Act.put, tdy]
                obtain ⟨wq3, gC, e1, e2, hka, hbb, hs3, hl3⟩ := al4 wq2 (zint nf) 3
                rw [← e1, ← e2]
                rw [← e1] at hHeld
                replace HB77 := hid_of (box_kept hka HB77.out id)
                replace HB99 := hid_of (box_kept hka HB99.out id)
                replace HB55 := hid_of (box_kept hka HB55.out id)
                have HB33 := hid_of hbb
                clear hbb hka e1 e2
                exact LEAF.out _ _ _ _ _ ⟨hHeld, HB33.out, HB55.out, HB77.out, HB99.out, by omega, by omega⟩
             ·have hmk := makeBool wd nf (by omega)
              go_simp
              refine hK.out _ _ (hHeld.alloc _) (fun hHeld => ?_)
              clear hK K hmk
              try simp only [Act.put, tdy]
              obtain ⟨wq0, gW, e1, e2, hka, hbb, hs9, hl9⟩ := al4 wd (zbool nf) 4
              rw [← e1, ← e2]
              rw [← e1] at hHeld
              have HB99 := hid_of hbb
              clear hbb hka e1 e2
              refine wpAnyH_ready (rs := [3, 5, 7]) (by kernel_rfl) (by simp) ?_
              refine (AllReadyH.cons rfl (fun K hK => ?_) (AllReadyH.cons rfl (fun K hK => ?_) (AllReadyH.cons rfl (fun K hK => ?_) AllReadyH.nil)))
              ·have hmk := makeInt wq0 nf (by omega)
               go_simp
               refine hK.out _ _ (hHeld.alloc _) (fun hHeld => ?_)
               clear hK K hmk
               try simp only [Act.put, tdy]
               obtain ⟨wq1, gC, e1, e2, hka, hbb, hs3, hl3⟩ := al4 wq0 (zint nf) 3
               rw [← e1, ← e2]
               rw [← e1] at hHeld
               replace HB99 := hid_of (box_kept hka HB99.out id)
               have HB33 := hid_of hbb
               clear hbb hka e1 e2
               refine wpAnyH_ready (rs := [5, 7]) (by kernel_rfl) (by simp) ?_
               refine (AllReadyH.cons rfl (fun K hK => ?_) (AllReadyH.cons rfl (fun K hK => ?_) AllReadyH.nil))
               ·have hmk := makeInt wq1 nf (by omega)
                go_simp
                refine hK.out _ _ (hHeld.alloc _) (fun hHeld => ?_)
                clear hK K hmk
                try simp only [Act.put, tdy]
                obtain ⟨wq2, gT, e1, e2, hka, hbb, hs5, hl5⟩ := al4 wq1 (zint nf) 3
                rw [← e1, ← e2]
                rw [← e1] at hHeld
                replace HB99 := hid_of (box_kept hka HB99.out id)
                replace HB33 := hid_of (box_kept hka HB33.out id)
                have HB55 := hid_of hbb
                clear hbb hka e1 e2
                refine rdy 7 rfl (fun K hK => ?_)
                have hmk := makeBool wq2 nf (by omega)
                go_simp
                refine hK.out _ _ (hHeld.alloc _) (fun hHeld => ?_)
                clear hK K hmk
                try simp only [Act.put, tdy]
                obtain ⟨wq3, gI, e1, e2, hka, hbb, hs7, hl7⟩ := al4 wq2 (zbool nf) 4
                rw [← e1, ← e2]
                rw [← e1] at hHeld
                replace HB99 := hid_of (box_kept hka HB99.out id)
                replace HB33 := hid_of (box_kept hka HB33.out id)
                replace HB55 := hid_of (box_kept hka HB55.out id)
                have HB77 := hid_of hbb
                clear hbb hka e1 e2
                exact LEAF.out _ _ _ _ _ ⟨hHeld, HB33.out, HB55.out, HB77.out, HB99.out, by omega, by omega⟩
               ·have hmk := makeBool wq1 nf (by omega)
                go_simp
                refine hK.out _ _ (hHeld.alloc _) (fun hHeld => ?_)
                clear hK K hmk
                try simp only [Act.put, tdy]
                obtain ⟨wq2, gI, e1, e2, hka, hbb, hs7, hl7⟩ := al4 wq1 (zbool nf) 4
                rw [← e1, ← e2]
                rw [← e1] at hHeld
                replace HB99 := hid_of (box_kept hka HB99.out id)
                replace HB33 := hid_of (box_kept hka HB33.out id)
                have HB77 := hid_of hbb
                clear hbb hka e1 e2
                refine rdy 5 rfl (fun K hK => ?_)
                have hmk := makeInt wq2 nf (by omega)
                go_simp
                refine hK.out _ _ (hHeld.alloc _) (fun hHeld => ?_)
                clear hK K hmk
                try simp only [Act.put, tdy]
                obtain ⟨wq3, gT, e1, e2, hka, hbb, hs5, hl5⟩ := al4 wq2 (zint nf) 3
                rw [← e1, ← e2]
                rw [← e1] at hHeld
                replace HB99 := hid_of (box_kept hka HB99.out id)
                replace HB33 := hid_of (box_kept hka HB33.out id)
                replace HB77 := hid_of (box_kept hka HB77.out id)
                have HB55 := hid_of hbb
                clear hbb hka e1 e2
                exact LEAF.out _ _ _ _ _ ⟨hHeld, HB33.out, HB55.out, HB77.out, HB99.out, by omega, by omega⟩
              ·have hmk := makeInt wq0 nf (by omega)
               go_simp
               refine hK.out _ _ (hHeld.alloc _) (fun hHeld => ?_)
               clear hK K hmk
               try simp only [Act.put, tdy]
               obtain ⟨wq1, gT, e1, e2, hka, hbb, hs5, hl5⟩ := al4 wq0 (zint nf) 3
               rw [← e1, ← e2]
               rw [← e1] at hHeld
               replace HB99 := hid_of (box_kept hka HB99.out id)
               have HB55 := hid_of hbb
               clear hbb hka e1 e2
               refine wpAnyH_ready (rs := [3, 7]) (by kernel_rfl) (by simp) ?_
               refine (AllReadyH.cons rfl (fun K hK => ?_) (AllReadyH.cons rfl (fun K hK => ?_) AllReadyH.nil))
               ·have hmk := makeInt wq1 nf (by omega)
                go_simp
                refine hK.out _ _ (hHeld.alloc _) (fun hHeld => ?_)
                clear hK K hmk
                try simp only [Act.put, tdy]
                obtain ⟨wq2, gC, e1, e2, hka, hbb, hs3, hl3⟩ := al4 wq1 (zint nf) 3
                rw [← e1, ← e2]
                rw [← e1] at hHeld
                replace HB99 := hid_of (box_kept hka HB99.out id)
                replace HB55 := hid_of (box_kept hka HB55.out id)
                have HB33 := hid_of hbb
                clear hbb hka e1 e2
                refine rdy 7 rfl (fun K hK => ?_)
                have hmk := makeBool wq2 nf (by omega)
                go_simp
                refine hK.out _ _ (hHeld.alloc _) (fun hHeld => ?_)
                clear hK K hmk
                try simp only [Act.put, tdy]
                obtain ⟨wq3, gI, e1, e2, hka, hbb, hs7, hl7⟩ := al4 wq2 (zbool nf) 4
                rw [← e1, ← e2]
                rw [← e1] at hHeld
                replace HB99 := hid_of (box_kept hka HB99.out id)
                replace HB55 := hid_of (box_kept hka HB55.out id)
                replace HB33 := hid_of (box_kept hka HB33.out id)
                have HB77 := hid_of hbb
                clear hbb hka e1 e2
                exact LEAF.out _ _ _ _ _ ⟨hHeld, HB33.out, HB55.out, HB77.out, HB99.out, by omega, by omega⟩
               ·have hmk := makeBool wq1 nf (by omega)
                go_simp
                refine hK.out _ _ (hHeld.alloc _) (fun hHeld => ?_)
                clear hK K hmk
                try simp only [Act.put, tdy]
                obtain ⟨wq2, gI, e1, e2, hka, hbb, hs7, hl7⟩ := al4 wq1 (zbool nf) 4
                rw [← e1, ← e2]
                rw [← e1] at hHeld
                replace HB99 := hid_of (box_kept hka HB99.out id)
                replace HB55 := hid_of (box_kept hka HB55.out id)
                have HB77 := hid_of hbb
                clear hbb hka e1 e2
                refine rdy 3 rfl (fun K hK => ?_)
                have hmk := makeInt wq2 nf (by omega)
                go_simp
                refine hK.out _ _ (hHeld.alloc _) (fun hHeld => ?_)
                clear hK K hmk
                try simp only [Act.put, tdy]
                obtain ⟨wq3, gC, e1, e2, hka, hbb, hs3, hl3⟩ := al4 wq2 (zint nf) 3
                rw [← e1, ← e2]
                rw [← e1] at hHeld
                replace HB99 := hid_of (box_kept hka HB99.out id)
                replace HB55 := hid_of (box_kept hka HB55.out id)
                replace HB77 := hid_of (box_kept hka HB77.out id)
                have HB33 := hid_of hbb
                clear hbb hka e1 e2
                exact LEAF.out _ _ _ _ _ ⟨hHeld, HB33.out, HB55.out, HB77.out, HB99.out, by omega, by omega⟩
              ·have hmk := makeBool wq0 nf (by omega)
               go_simp
               refine hK.out _ _ (hHeld.alloc _) (fun hHeld => ?_)
               clear hK K hmk
               try simp only [Act.put, tdy]
               obtain ⟨wq1, gI, e1, e2, hka, hbb, hs7, hl7⟩ := al4 wq0 (zbool nf) 4
               rw [← e1, ← e2]
               rw [← e1] at hHeld
               replace HB99 := hid_of (box_kept hka HB99.out id)
               have HB77 := hid_of hbb
               clear hbb hka e1 e2
               refine wpAnyH_ready (rs := [3, 5]) (by kernel_rfl) (by simp) ?_
               refine (AllReadyH.cons rfl (fun K hK => ?_) (AllReadyH.cons rfl (fun K hK => ?_) AllReadyH.nil))
               ·have hmk := makeInt wq1 nf (by omega)
                go_simp
                refine hK.out _ _ (hHeld.alloc _) (fun hHeld => ?_)
                clear hK K hmk
                try simp only [Act.put, tdy]
                obtain ⟨wq2, gC, e1, e2, hka, hbb, hs3, hl3⟩ := al4 wq1 (zint nf) 3
                rw [← e1, ← e2]
                rw [← e1] at hHeld
                replace HB99 := hid_of (box_kept hka HB99.out id)
                replace HB77 := hid_of (box_kept hka HB77.out id)
                have HB33 := hid_of hbb
                clear hbb hka e1 e2
                refine rdy 5 rfl (fun K hK => ?_)
                have hmk := makeInt wq2 nf (by omega)
                go_simp
                refine hK.out _ _ (hHeld.alloc _) (fun hHeld => ?_)
                clear hK K hmk
                try simp only [Act.put, tdy]
                obtain ⟨wq3, gT, e1, e2, hka, hbb, hs5, hl5⟩ := al4 wq2 (zint nf) 3
                rw [← e1, ← e2]
                rw [← e1] at hHeld
                replace HB99 := hid_of (box_kept hka HB99.out id)
                replace HB77 := hid_of (box_kept hka HB77.out id)
                replace HB33 := hid_of (box_kept hka HB33.out id)
                have HB55 := hid_of hbb
                clear hbb hka e1 e2
                exact LEAF.out _ _ _ _ _ ⟨hHeld, HB33.out, HB55.out, HB77.out, HB99.out, by omega, by omega⟩
               ·have hmk := makeInt wq1 nf (by omega)
                go_simp
                refine hK.out _ _ (hHeld.alloc _) (fun hHeld => ?_)
                clear hK K hmk
                try simp only [Act.put, tdy]
                obtain ⟨wq2, gT, e1, e2, hka, hbb, hs5, hl5⟩ := al4 wq1 (zint nf) 3
                rw [← e1, ← e2]
                rw [← e1] at hHeld
                replace HB99 := hid_of (box_kept hka HB99.out id)
                replace HB77 := hid_of (box_kept hka HB77.out id)
                have HB55 := hid_of hbb
                clear hbb hka e1 e2
                refine rdy 3 rfl (fun K hK => ?_)
                have hmk := makeInt wq2 nf (by omega)
                go_simp
                refine hK.out _ _ (hHeld.alloc _) (fun hHeld => ?_)
                clear hK K hmk
                try simp only [Act.put, tdy]
                obtain ⟨wq3, gC, e1, e2, hka, hbb, hs3, hl3⟩ := al4 wq2 (zint nf) 3
                rw [← e1, ← e2]
                rw [← e1] at hHeld
                replace HB99 := hid_of (box_kept hka HB99.out id)
                replace HB77 := hid_of (box_kept hka HB77.out id)
                replace HB55 := hid_of (box_kept hka HB55.out id)
                have HB33 := hid_of hbb
                clear hbb hka e1 e2
                exact LEAF.out _ _ _ _ _ ⟨hHeld, HB33.out, HB55.out, HB77.out, HB99.out, by omega, by omega⟩
            case h =>
             intro wL gC gT gI gW h4
             have hHeld := h4.kept
             refine tkp (v := .agg #[.int .i64 mem, .slice dao nd dc, .slice (some ⟨pg, po, none⟩) nf fc, .slice (some ⟨hg, 0, none⟩) nf hc, .slice (some ⟨tg, 0, none⟩) nf tc, .slice (some ⟨lg, 0, none⟩) nf lc, .slice (some ⟨gl, 0, none⟩) nf nf, .int .i64 0, .int .i64 0, .slice (some ⟨gC, 0, none⟩) nf nf, .slice (some ⟨gT, 0, none⟩) nf nf, .slice (some ⟨gI, 0, none⟩) nf nf, .slice (some ⟨gW, 0, none⟩) nf nf]) 10 rfl ?_ ?_
             ·intro w hSw; exact exec88 _ _ w mem dao nd dc pg po nf fc hg hc tg tc lg lc gl gC gT gI gW _ _ _ _ _ _ rfl rfl rfl rfl rfl rfl rfl
             try simp only [Act.put, tdy]
             have hbx := heap_alloc_new wL (.cells #[.int .i64 mem, .slice dao nd dc, .slice (some ⟨pg, po, none⟩) nf fc, .slice (some ⟨hg, 0, none⟩) nf hc, .slice (some ⟨tg, 0, none⟩) nf tc, .slice (some ⟨lg, 0, none⟩) nf lc, .slice (some ⟨gl, 0, none⟩) nf nf, .int .i64 0, .int .i64 0, .slice (some ⟨gC, 0, none⟩) nf nf, .slice (some ⟨gT, 0, none⟩) nf nf, .slice (some ⟨gI, 0, none⟩) nf nf, .slice (some ⟨gW, 0, none⟩) nf nf] 88)
             have hkx : KF wL (wL.alloc (.cells #[.int .i64 mem, .slice dao nd dc, .slice (some ⟨pg, po, none⟩) nf fc, .slice (some ⟨hg, 0, none⟩) nf hc, .slice (some ⟨tg, 0, none⟩) nf tc, .slice (some ⟨lg, 0, none⟩) nf lc, .slice (some ⟨gl, 0, none⟩) nf nf, .int .i64 0, .int .i64 0, .slice (some ⟨gC, 0, none⟩) nf nf, .slice (some ⟨gT, 0, none⟩) nf nf, .slice (some ⟨gI, 0, none⟩) nf nf, .slice (some ⟨gW, 0, none⟩) nf nf] 88)) := (Kept.refl _ _).alloc _
             have HSM := hid_of (sums_new (wA := wA) (by omega) (box_kept hkx h4.c id) (box_kept hkx h4.t id) (box_kept hkx h4.i id) (box_kept hkx h4.ww id) hbx h4.ap h4.lo (hHeld.trans hkx))
             clear hbx hkx h4
             refine rdy 11 rfl (fun K hK => ?_)
             go_simp
             refine hK.out _ _ (hHeld.alloc _) (fun hHeld => ?_)
             clear hK K
             try simp only [Act.put, tdy]
             iterate 1
              refine tkn (v := ?_) 12 rfl ?_ ?_; rotate_left 1
              ·intro w hSw; go_simp; try with_reducible rfl
              try simp only [Act.put, tdy]
             refine wpAnyH_done (by kernel_rfl) ?_ _
             clear hHeld
             go_wp2_with fail
             go_meet
             exact ⟨_, gC, gT, gI, gW, rfl, HSM⟩
           case rest =>
            as_aux_lemma =>
             obtain ⟨g, gC, gT, gI, gW, rfl, HSM⟩ := hcut
             obtain ⟨wB, hwB⟩ := nmd (wc)
             subst hwB
             have hfa := HFA.out
             have hSB : SmB p bs wA B nd dc nf fc hg hc tg tc pg po mem dao := by
              have h9 := hfa.rows.1
              rw [List.length_map, HBN.out] at h9
              have h8 := own_mono hfa.tv (Nat.zero_le _)
              have h7 : (bs.map topP).length = nf := by rw [List.length_map]; exact HBN.out
              rw [h7] at h8
              exact ⟨HBS.out, HO.out, HNF.out, (HPW.out wA hfa.kept).1, (HPW.out wA hfa.kept).2, h9, h8⟩
             have hBF : B ≤ gF := Nat.le_trans (HPW.out W (Kept.refl _ _)).2 hfa.lo
             -- the two stores
             have hS1 := HSM.out.reb hfa.box (o := 4) (.int .i64 (-1))
             have hB1' := hSB.reb hfa.box hBF (o := 4) (.int .i64 (-1))
             have hf1 := hfa.put (kept_set wA gF 4 (.int .i64 (-1))) (set_block _ _ 4 _ _ _ hfa.box _)
             have hS2 := hS1.reb hf1.box (o := 5) (.int .i64 (-1))
             have hB2' := hB1'.reb hf1.box hBF (o := 5) (.int .i64 (-1))
             have hf2 := hf1.put (kept_set _ gF 5 (.int .i64 (-1))) (set_block _ _ 5 _ _ _ hf1.box _)
             have hl2 : (World.setCell (wA.setCell ⟨gF, 4, none⟩ (.int .i64 (-1))) ⟨gF, 5, none⟩ (.int .i64 (-1))).ownsRow W.heap.size 4 1 (.slice (some ⟨gl, 0, none⟩) nf nf) nf (bools lv) := by
              have h9 := (kept_set wA gF 4 (.int .i64 (-1))).ownsRow HLA.out (fun q hq e => own_box2 HLA.out hfa.box (by decide) (by rw [hq, e]))
              exact (kept_set _ gF 5 (.int .i64 (-1))).ownsRow h9 (fun q hq e => own_box2 h9 hf1.box (by decide) (by rw [hq, e]))
             have hbB := box_kept HSM.out.kept hfa.box id
             obtain ⟨⟨d0, d1, d2, d3, d4, d5⟩, k0, k1, k2, k3, k4, k5⟩ := look6 hbB
             have hbB1 := box_kept hS1.kept hf1.box id
             have d5' := cell_block _ _ 5 _ _ _ hbB1
             have k5' := frozen_block _ _ 5 _ _ hbB1
             have HS2 := hid_of hS2
             have HB2' := hid_of hB2'
             have HF2 := hid_of hf2
             have HL2 := hid_of hl2
             clear hS1 hS2 hB1' hB2' hf1 hf2 hl2 hbB hbB1 hSB hfa HSM HFA HLA
             go_upto_region 40 with fail
             clear d0 d1 d2 d3 d4 d5 k0 k1 k2 k3 k4 k5 d5' k5' HSX
             generalize (wB.setCell ⟨gF, 4, none⟩ (.int .i64 (-1))).setCell ⟨gF, 5, none⟩ (.int .i64 (-1)) = wB2 at *
             generalize (wA.setCell ⟨gF, 4, none⟩ (.int .i64 (-1))).setCell ⟨gF, 5, none⟩ (.int .i64 (-1)) = wA2 at *
             have HZO : Hid (((0 : Nat) : Int) ∈ ordF bs) := (lead_tour HBS.out).1
             have HK0 : ∀ K : Nat → Int, KnC nf K (List.replicate nf 0) (List.replicate nf false) := fun K i hi ht => by rw [rep_false] at ht; cases ht
             have HT0 : KnT nf bs (List.replicate nf 0) (List.replicate nf false) := fun i hi ht => by rw [rep_false] at ht; cases ht
             cases bd with
             | false =>
              as_aux_lemma =>
               have hag : true ∈ (tourP (leadP bs) bs.length).again := Classical.byContradiction (fun h => by have := HBND.out.2 h; cases this)
               have HCE : Hid ((factsP p bs).cells = -1) := by unfold Hid factsP; simp only; rw [if_pos hag]
               have HCO : Hid ((factsP p bs).cost = -1) := by unfold Hid factsP; simp only; rw [if_pos hag]
               clear hag HBND HSTD HK0 HT0
               have hfe := HF2.out.same HS2.out.kept
               have hle := HS2.out.kept.ownsRow HL2.out (fun _ _ f => f)
               have HKE := hid_of hfe.kept
               have hFT : FactsAt wB2 W.heap.size nf (.agg #[.slice (some ⟨hg, 0, none⟩) nf hc, .slice (some ⟨tg, 0, none⟩) nf tc, .slice (some ⟨lg, 0, none⟩) nf lc, .slice (some ⟨gl, 0, none⟩) nf nf, .int .i64 (-1), .int .i64 (-1)]) (factsP p bs) := by
                refine ⟨_, _, _, gl, HV, LV, by rw [HCE.out, HCO.out], ?_, fun i l hl => ?_, hfe.tv, ?_, fun i l hl => ?_, ?_⟩
                ·have h9 := hfe.hv
                 rw [List.length_map, HBN.out] at h9
                 exact h9
                ·obtain ⟨u, a, b, _⟩ := hfe.hr i l hl
                 exact ⟨u, a, own_mono b (Nat.zero_le _)⟩
                ·have h9 := hfe.lv
                 rw [List.length_map, HBN.out] at h9
                 exact h9
                ·obtain ⟨u, a, b, _⟩ := hfe.lr i l hl
                 exact ⟨u, a, own_mono b (Nat.zero_le _)⟩
                ·rw [← HLE.out]; exact hle
               have hc2 := box_kept hfe.kept HB2.out id
               have hc3 := box_kept hfe.kept HB3.out id
               have hkr := kept_row wB2 (s + 1) #[.slice (some ⟨hg, 0, none⟩) nf hc, .slice (some ⟨tg, 0, none⟩) nf tc, .slice (some ⟨lg, 0, none⟩) nf lc, .slice (some ⟨gl, 0, none⟩) nf nf, .int .i64 (-1), .int .i64 (-1)]
               have hx := setRow_heap wB2 (s + 1) _ #[.slice (some ⟨hg, 0, none⟩) nf hc, .slice (some ⟨tg, 0, none⟩) nf tc, .slice (some ⟨lg, 0, none⟩) nf lc, .slice (some ⟨gl, 0, none⟩) nf nf, .int .i64 (-1), .int .i64 (-1)] 33 (0, 0) hc2
               have hz := box_kept hkr hc3 (fun e => by omega)
               have hkr2 := kept_row (wB2.setRow (s + 1) #[.slice (some ⟨hg, 0, none⟩) nf hc, .slice (some ⟨tg, 0, none⟩) nf tc, .slice (some ⟨lg, 0, none⟩) nf lc, .slice (some ⟨gl, 0, none⟩) nf nf, .int .i64 (-1), .int .i64 (-1)]) (s + 2) #[.int .i64 0, .int .i64 0, .int .i64 0]
               have HX2 := hid_of (setRow_heap _ (s + 2) _ #[.int .i64 0, .int .i64 0, .int .i64 0] 38 (0, 0) hz)
               have HX1 := hid_of (box_kept hkr2 hx (fun e => by omega))
               have HZ := hid_of hz
               have HD2 := hid_of hc2
               have HKX : Hid (KF w _) := (HKW.out.trans HKE.out).step (hkr.trans' hkr2) (fun j hj e => by have := HGB.out; omega)
               have HFF := hid_of (hFT.over (hkr.trans' hkr2) (fun q e => by
                rcases e with rfl | rfl
                ·exact ⟨_, 33, hc2, by decide, by decide, by decide⟩
                ·exact ⟨_, 38, hc3, by decide, by decide, by decide⟩) HKW.out.size)
               obtain ⟨d0, d1, d2, d3, d4, d5⟩ := look6k hfe.box
               clear hx hkr hz hkr2 hfe hle hFT hc2 hc3
               go_upto_region 44 with fail
               go_wp2_with (first | refine wpList_store_row rfl 33 _ _ rfl (s + 1) #[.slice (some ⟨hg, 0, none⟩) nf hc, .slice (some ⟨tg, 0, none⟩) nf tc, .slice (some ⟨lg, 0, none⟩) nf lc, .slice (some ⟨gl, 0, none⟩) nf nf, .int .i64 (-1), .int .i64 (-1)] rfl rfl 33 _ HD2.out size33 rfl (six_one _ _ _ _ _ _ rfl rfl rfl rfl rfl rfl) ?_ | refine wpList_store_row rfl 38 _ _ rfl (s + 2) #[.int .i64 0, .int .i64 0, .int .i64 0] rfl rfl 38 _ HZ.out size38 rfl (three_one _ _ _ rfl rfl rfl) ?_)
               refine bodyPost_ret (v := .tuple #[.agg #[.slice (some ⟨hg, 0, none⟩) nf hc, .slice (some ⟨tg, 0, none⟩) nf tc, .slice (some ⟨lg, 0, none⟩) nf lc, .slice (some ⟨gl, 0, none⟩) nf nf, .int .i64 (-1), .int .i64 (-1)], .agg #[.int .i64 0, .int .i64 0, .int .i64 0]]) ?_ rfl ⟨HKX.out, by rw [HRF.out]; exact ⟨_, rfl, HFF.out⟩⟩
               exact results_row2 (by rfl) _ _ (s + 1) (s + 2) 33 38 _ _ (0, 0) (0, 0) _ _ (by rfl) HX1.out Tryz.underlying33 rfl size33 (by rfl) HX2.out Tryz.underlying38 rfl size38
             | true =>
              have hno : true ∉ (tourP (leadP bs) bs.length).again := HBND.out.1 rfl
              obtain ⟨K, hK, hK0⟩ := cell_eq HBS.out hno
              have HCE := hid_of hK0.symm
              have HCELL := hid_of (cells_ref HB2'.out hno K hK (.slice (some ⟨lg, 0, none⟩) nf lc) (.slice (some ⟨gl, 0, none⟩) nf nf) g gC gT gI gW (List.replicate nf 0) (List.replicate nf false) 0 HZO.out wB2 (List.replicate nf 0) (List.replicate nf false) HS2.out (HK0 K))
              have HCOST := hid_of (fun (hQ : CostQ p bs) (w0 : World) (hB : SmB p bs w0 B nd dc nf fc hg hc tg tc pg po mem dao) (cs : List Int) (is : List Bool) => cost_ref hB hno hQ (.slice (some ⟨lg, 0, none⟩) nf lc) (.slice (some ⟨gl, 0, none⟩) nf nf) g gC gT gI gW cs is 0 HZO.out)
              have HCQ := hid_of (cost_eq HBS.out hno)
              have HTT := hid_of HT0
              obtain ⟨k0, hk0⟩ := nmd (K 0)
              rw [← hk0] at HCE HCELL
              clear hno hK hK0 HK0 HT0 hk0 HBND
              go_upto_region 41 with fail
              go_wp2_with fail
              refine HCELL.out.mono ?_
              rintro e wC ⟨cs', is', rfl, hSC, _, hkC⟩
              have hf2 := HF2.out
              have hS3 := hSC.reb hf2.box (o := 4) (.int .i64 k0)
              have HB3' := hid_of (HB2'.out.reb hf2.box hBF (o := 4) (.int .i64 k0))
              have HF3 := hid_of (hf2.put (kept_set _ gF 4 (.int .i64 k0)) (set_block _ _ 4 _ _ _ hf2.box _))
              have HL3 := hid_of ((kept_set wA2 gF 4 (.int .i64 k0)).ownsRow HL2.out (fun q hq e => own_box2 HL2.out hf2.box (by decide) (by rw [hq, e])))
              have HS3 := hid_of hS3
              have hbC := box_kept hSC.kept hf2.box id
              have d4 := cell_block _ _ 4 _ _ _ hbC
              have k4 := frozen_block _ _ 4 _ _ hbC
              clear hSC hkC hf2 hS3 hbC HCELL HS2 HB2' HF2 HL2
              go_upto_region 42 with fail
              clear d4 k4
              generalize wC.setCell ⟨gF, 4, none⟩ (.int .i64 k0) = wC2 at *
              generalize wA2.setCell ⟨gF, 4, none⟩ (.int .i64 k0) = wA3 at *
              cases st with
              | false =>
               as_aux_lemma =>
                have HCO : Hid ((factsP p bs).cost = -1) := by
                 rcases HCQ.out with ⟨_, h⟩ | ⟨h, _⟩
                 ·exact h
                 ·have := HSTD.out.2 h.lp
                  cases this
                clear HCQ HSTD HCOST HTT
                have hfe := HF3.out.same HS3.out.kept
                have hle := HS3.out.kept.ownsRow HL3.out (fun _ _ f => f)
                have HKE := hid_of hfe.kept
                have hFT : FactsAt wC2 W.heap.size nf (.agg #[.slice (some ⟨hg, 0, none⟩) nf hc, .slice (some ⟨tg, 0, none⟩) nf tc, .slice (some ⟨lg, 0, none⟩) nf lc, .slice (some ⟨gl, 0, none⟩) nf nf, .int .i64 k0, .int .i64 (-1)]) (factsP p bs) := by
                 refine ⟨_, _, _, gl, HV, LV, by rw [HCE.out, HCO.out], ?_, fun i l hl => ?_, hfe.tv, ?_, fun i l hl => ?_, ?_⟩
                 ·have h9 := hfe.hv
                  rw [List.length_map, HBN.out] at h9
                  exact h9
                 ·obtain ⟨u, a, b, _⟩ := hfe.hr i l hl
                  exact ⟨u, a, own_mono b (Nat.zero_le _)⟩
                 ·have h9 := hfe.lv
                  rw [List.length_map, HBN.out] at h9
                  exact h9
                 ·obtain ⟨u, a, b, _⟩ := hfe.lr i l hl
                  exact ⟨u, a, own_mono b (Nat.zero_le _)⟩
                 ·rw [← HLE.out]; exact hle
                have hc2 := box_kept hfe.kept HB2.out id
                have hc3 := box_kept hfe.kept HB3.out id
                have hkr := kept_row wC2 (s + 1) #[.slice (some ⟨hg, 0, none⟩) nf hc, .slice (some ⟨tg, 0, none⟩) nf tc, .slice (some ⟨lg, 0, none⟩) nf lc, .slice (some ⟨gl, 0, none⟩) nf nf, .int .i64 k0, .int .i64 (-1)]
                have hx := setRow_heap wC2 (s + 1) _ #[.slice (some ⟨hg, 0, none⟩) nf hc, .slice (some ⟨tg, 0, none⟩) nf tc, .slice (some ⟨lg, 0, none⟩) nf lc, .slice (some ⟨gl, 0, none⟩) nf nf, .int .i64 k0, .int .i64 (-1)] 33 (0, 0) hc2
                have hz := box_kept hkr hc3 (fun e => by omega)
                have hkr2 := kept_row (wC2.setRow (s + 1) #[.slice (some ⟨hg, 0, none⟩) nf hc, .slice (some ⟨tg, 0, none⟩) nf tc, .slice (some ⟨lg, 0, none⟩) nf lc, .slice (some ⟨gl, 0, none⟩) nf nf, .int .i64 k0, .int .i64 (-1)]) (s + 2) #[.int .i64 0, .int .i64 0, .int .i64 0]
                have HX2 := hid_of (setRow_heap _ (s + 2) _ #[.int .i64 0, .int .i64 0, .int .i64 0] 38 (0, 0) hz)
                have HX1 := hid_of (box_kept hkr2 hx (fun e => by omega))
                have HZ := hid_of hz
                have HD2 := hid_of hc2
                have HKX : Hid (KF w _) := (HKW.out.trans HKE.out).step (hkr.trans' hkr2) (fun j hj e => by have := HGB.out; omega)
                have HFF := hid_of (hFT.over (hkr.trans' hkr2) (fun q e => by
                 rcases e with rfl | rfl
                 ·exact ⟨_, 33, hc2, by decide, by decide, by decide⟩
                 ·exact ⟨_, 38, hc3, by decide, by decide, by decide⟩) HKW.out.size)
                obtain ⟨d0, d1, d2, d3, d4, d5⟩ := look6k hfe.box
                clear hx hkr hz hkr2 hfe hle hFT hc2 hc3
                go_upto_region 44 with fail
                go_wp2_with (first | refine wpList_store_row rfl 33 _ _ rfl (s + 1) #[.slice (some ⟨hg, 0, none⟩) nf hc, .slice (some ⟨tg, 0, none⟩) nf tc, .slice (some ⟨lg, 0, none⟩) nf lc, .slice (some ⟨gl, 0, none⟩) nf nf, .int .i64 k0, .int .i64 (-1)] rfl rfl 33 _ HD2.out size33 rfl (six_one _ _ _ _ _ _ rfl rfl rfl rfl rfl rfl) ?_ | refine wpList_store_row rfl 38 _ _ rfl (s + 2) #[.int .i64 0, .int .i64 0, .int .i64 0] rfl rfl 38 _ HZ.out size38 rfl (three_one _ _ _ rfl rfl rfl) ?_)
                refine bodyPost_ret (v := .tuple #[.agg #[.slice (some ⟨hg, 0, none⟩) nf hc, .slice (some ⟨tg, 0, none⟩) nf tc, .slice (some ⟨lg, 0, none⟩) nf lc, .slice (some ⟨gl, 0, none⟩) nf nf, .int .i64 k0, .int .i64 (-1)], .agg #[.int .i64 0, .int .i64 0, .int .i64 0]]) ?_ rfl ⟨HKX.out, by rw [HRF.out]; exact ⟨_, rfl, HFF.out⟩⟩
                exact results_row2 (by rfl) _ _ (s + 1) (s + 2) 33 38 _ _ (0, 0) (0, 0) _ _ (by rfl) HX1.out Tryz.underlying33 rfl size33 (by rfl) HX2.out Tryz.underlying38 rfl size38
              | true =>
               as_aux_lemma =>
                have hQ : CostQ p bs ∧ (factsP p bs).cost = capM ((tuL bs).getD 0 0) := by
                 rcases HCQ.out with ⟨⟨q, hq, hl⟩, _⟩ | h
                 ·exact absurd (HSTD.out.1 rfl q hq) hl
                 ·exact h
                have HCO := hid_of hQ.2
                have HCC := hid_of (HCOST.out hQ.1 wA3 HB3'.out cs' is' wC2 (List.replicate nf 0) (List.replicate nf false) HS3.out HTT.out)
                obtain ⟨c9, hc9⟩ := nmd (capM ((tuL bs).getD 0 0))
                rw [← hc9] at HCO HCC
                clear hQ hc9 HCQ HSTD HCOST HTT
                go_upto_region 43 with fail
                go_wp2_with fail
                refine HCC.out.mono ?_
                rintro e wD ⟨ts', ws', rfl, hSD, _, hkD⟩
                have hf3 := HF3.out
                have hS4 := hSD.reb hf3.box (o := 5) (.int .i64 c9)
                have HF4 := hid_of (hf3.put (kept_set _ gF 5 (.int .i64 c9)) (set_block _ _ 5 _ _ _ hf3.box _))
                have HL4 := hid_of ((kept_set wA3 gF 5 (.int .i64 c9)).ownsRow HL3.out (fun q hq e => own_box2 HL3.out hf3.box (by decide) (by rw [hq, e])))
                have HS4 := hid_of hS4
                have hbD := box_kept hSD.kept hf3.box id
                have d5 := cell_block _ _ 5 _ _ _ hbD
                have k5 := frozen_block _ _ 5 _ _ hbD
                clear hSD hkD hf3 hS4 hbD HCC HS3 HB3' HF3 HL3
                go_upto_region 44 with fail
                clear d5 k5
                generalize wD.setCell ⟨gF, 5, none⟩ (.int .i64 c9) = wD2 at *
                generalize wA3.setCell ⟨gF, 5, none⟩ (.int .i64 c9) = wA4 at *
                have hfe := HF4.out.same HS4.out.kept
                have hle := HS4.out.kept.ownsRow HL4.out (fun _ _ f => f)
                have HKE := hid_of hfe.kept
                have hFT : FactsAt wD2 W.heap.size nf (.agg #[.slice (some ⟨hg, 0, none⟩) nf hc, .slice (some ⟨tg, 0, none⟩) nf tc, .slice (some ⟨lg, 0, none⟩) nf lc, .slice (some ⟨gl, 0, none⟩) nf nf, .int .i64 k0, .int .i64 c9]) (factsP p bs) := by
                 refine ⟨_, _, _, gl, HV, LV, by rw [HCE.out, HCO.out], ?_, fun i l hl => ?_, hfe.tv, ?_, fun i l hl => ?_, ?_⟩
                 ·have h9 := hfe.hv
                  rw [List.length_map, HBN.out] at h9
                  exact h9
                 ·obtain ⟨u, a, b, _⟩ := hfe.hr i l hl
                  exact ⟨u, a, own_mono b (Nat.zero_le _)⟩
                 ·have h9 := hfe.lv
                  rw [List.length_map, HBN.out] at h9
                  exact h9
                 ·obtain ⟨u, a, b, _⟩ := hfe.lr i l hl
                  exact ⟨u, a, own_mono b (Nat.zero_le _)⟩
                 ·rw [← HLE.out]; exact hle
                have hc2 := box_kept hfe.kept HB2.out id
                have hc3 := box_kept hfe.kept HB3.out id
                have hkr := kept_row wD2 (s + 1) #[.slice (some ⟨hg, 0, none⟩) nf hc, .slice (some ⟨tg, 0, none⟩) nf tc, .slice (some ⟨lg, 0, none⟩) nf lc, .slice (some ⟨gl, 0, none⟩) nf nf, .int .i64 k0, .int .i64 c9]
                have hx := setRow_heap wD2 (s + 1) _ #[.slice (some ⟨hg, 0, none⟩) nf hc, .slice (some ⟨tg, 0, none⟩) nf tc, .slice (some ⟨lg, 0, none⟩) nf lc, .slice (some ⟨gl, 0, none⟩) nf nf, .int .i64 k0, .int .i64 c9] 33 (0, 0) hc2
                have hz := box_kept hkr hc3 (fun e => by omega)
                have hkr2 := kept_row (wD2.setRow (s + 1) #[.slice (some ⟨hg, 0, none⟩) nf hc, .slice (some ⟨tg, 0, none⟩) nf tc, .slice (some ⟨lg, 0, none⟩) nf lc, .slice (some ⟨gl, 0, none⟩) nf nf, .int .i64 k0, .int .i64 c9]) (s + 2) #[.int .i64 0, .int .i64 0, .int .i64 0]
                have HX2 := hid_of (setRow_heap _ (s + 2) _ #[.int .i64 0, .int .i64 0, .int .i64 0] 38 (0, 0) hz)
                have HX1 := hid_of (box_kept hkr2 hx (fun e => by omega))
                have HZ := hid_of hz
                have HD2 := hid_of hc2
                have HKX : Hid (KF w _) := (HKW.out.trans HKE.out).step (hkr.trans' hkr2) (fun j hj e => by have := HGB.out; omega)
                have HFF := hid_of (hFT.over (hkr.trans' hkr2) (fun q e => by
                 rcases e with rfl | rfl
                 ·exact ⟨_, 33, hc2, by decide, by decide, by decide⟩
                 ·exact ⟨_, 38, hc3, by decide, by decide, by decide⟩) HKW.out.size)
                obtain ⟨d0, d1, d2, d3, d4, d5⟩ := look6k hfe.box
                clear hx hkr hz hkr2 hfe hle hFT hc2 hc3
                go_upto_region 44 with fail
                go_wp2_with (first | refine wpList_store_row rfl 33 _ _ rfl (s + 1) #[.slice (some ⟨hg, 0, none⟩) nf hc, .slice (some ⟨tg, 0, none⟩) nf tc, .slice (some ⟨lg, 0, none⟩) nf lc, .slice (some ⟨gl, 0, none⟩) nf nf, .int .i64 k0, .int .i64 c9] rfl rfl 33 _ HD2.out size33 rfl (six_one _ _ _ _ _ _ rfl rfl rfl rfl rfl rfl) ?_ | refine wpList_store_row rfl 38 _ _ rfl (s + 2) #[.int .i64 0, .int .i64 0, .int .i64 0] rfl rfl 38 _ HZ.out size38 rfl (three_one _ _ _ rfl rfl rfl) ?_)
                refine bodyPost_ret (v := .tuple #[.agg #[.slice (some ⟨hg, 0, none⟩) nf hc, .slice (some ⟨tg, 0, none⟩) nf tc, .slice (some ⟨lg, 0, none⟩) nf lc, .slice (some ⟨gl, 0, none⟩) nf nf, .int .i64 k0, .int .i64 c9], .agg #[.int .i64 0, .int .i64 0, .int .i64 0]]) ?_ rfl ⟨HKX.out, by rw [HRF.out]; exact ⟨_, rfl, HFF.out⟩⟩
                exact results_row2 (by rfl) _ _ (s + 1) (s + 2) 33 38 _ _ (0, 0) (0, 0) _ _ (by rfl) HX1.out Tryz.underlying33 rfl size33 (by rfl) HX2.out Tryz.underlying38 rfl size38
    ·as_aux_lemma =>
      have hpb : (pe != 0) = true := by simpa using hpz
      have HY := hid_of hpz
      have HRD : Hid (runD p = .error (pe, pi, pa)) := by unfold Hid runD; rw [HPL2.out, if_pos (by rw [← HPE.out]; exact hpz), ← HPE.out, ← HPI.out, ← HPA.out]
      have HC2 := hid_of (box_kept HK3.out HB2.out id)
      have HC3 := hid_of (box_kept HK3.out HB3.out id)
      clear hpz
      go_upto_region 8 with fail
      clear g0 hpb
      have HSX : Hid (∀ w', Kept (fun q => q = s + 1 ∨ q = s + 2) w3 w' → w'.cell? ⟨gx, 0, none⟩ = some (.int .i64 pe) ∧ w'.cell? ⟨gx, 1, none⟩ = some (.int .i64 pi) ∧ w'.cell? ⟨gx, 2, none⟩ = some (.int .i64 pa)) := fun w' hw => ⟨hw.cell (cell_block _ _ 0 _ _ _ HBX.out) HGX.out, hw.cell (cell_block _ _ 1 _ _ _ HBX.out) HGX.out, hw.cell (cell_block _ _ 2 _ _ _ HBX.out) HGX.out⟩
      have hKd : KF w3 (w3).drew := (Kept.refl _ _).drew
      refine wp_region_held_drew (S := fun w' => Kept (fun q => q = s + 1 ∨ q = s + 2) w3 w') (by kernel_rfl) ((Kept.refl _ _).drew) (fun hHeld => ?_)
      generalize (w3).drew = wd at *
      iterate 2
       refine tkn (v := ?_) 0 rfl ?_ ?_; rotate_left 1
       ·intro w hSw; obtain ⟨s0, s1, s2⟩ := HSX.out w hSw; go_simp; try with_reducible rfl
       try simp only [Act.put, tdy]
      have hc2 := box_kept hKd HC2.out id
      have hkr := kept_row wd (s + 1) #[.slice none 0 0, .slice none 0 0, .slice none 0 0, .slice none 0 0, .int .i64 0, .int .i64 0]
      have hx := setRow_heap wd (s + 1) _ #[.slice none 0 0, .slice none 0 0, .slice none 0 0, .slice none 0 0, .int .i64 0, .int .i64 0] 33 (0, 0) hc2
      have hz := box_kept hkr (box_kept hKd HC3.out id) (fun e => by omega)
      have hkr2 := kept_row (wd.setRow (s + 1) #[.slice none 0 0, .slice none 0 0, .slice none 0 0, .slice none 0 0, .int .i64 0, .int .i64 0]) (s + 2) #[.int .i64 pe, .int .i64 pi, .int .i64 pa]
      have HX2 := hid_of (setRow_heap _ (s + 2) _ #[.int .i64 pe, .int .i64 pi, .int .i64 pa] 38 (0, 0) hz)
      have HX1 := hid_of (box_kept hkr2 hx (fun e => by omega))
      have HZ := hid_of hz
      have HD2 := hid_of hc2
      have hk1 : Kept (fun q => q = s + 1 ∨ q = s + 2) w3 _ := (hKd.mono (fun _ _ f => f.elim)).trans (hkr.mono (fun _ _ e => .inl e))
      have HKS2 := hid_of (hk1.trans (hkr2.mono (fun _ _ e => .inr e)))
      have HKS1 := hid_of hk1
      have HKX : Hid (KF w _) := (HKW.out.trans HK3.out).step HKS2.out (fun j hj e => by have := HGB.out; omega)
      clear hx hkr hz hkr2 hk1 hc2
      refine rdy 2 rfl (fun K hK => ?_)
      refine stp_store_row rfl 33 _ _ rfl (s + 1) #[.slice none 0 0, .slice none 0 0, .slice none 0 0, .slice none 0 0, .int .i64 0, .int .i64 0] rfl rfl 33 _ HD2.out size33 rfl (six_one _ _ _ _ _ _ rfl rfl rfl rfl rfl rfl) ?_
      refine hK.out _ _ HKS1.out (fun hHeld => ?_)
      clear hK K
      try simp only [Act.put, tdy]
      refine rdy 3 rfl (fun K hK => ?_)
      refine stp_store_row rfl 38 _ _ rfl (s + 2) #[.int .i64 pe, .int .i64 pi, .int .i64 pa] rfl rfl 38 _ HZ.out size38 rfl (three_one _ _ _ rfl rfl rfl) ?_
      refine hK.out _ _ HKS2.out (fun hHeld => ?_)
      clear hK K
      try simp only [Act.put, tdy]
      refine wpAnyH_done (by kernel_rfl) ?_ _
      go_wp2
      refine bodyPost_ret (v := .tuple #[.agg #[.slice none 0 0, .slice none 0 0, .slice none 0 0, .slice none 0 0, .int .i64 0, .int .i64 0], .agg #[.int .i64 pe, .int .i64 pi, .int .i64 pa]]) ?_ rfl ⟨HKX.out, by rw [HRD.out]; exact ⟨HY.out, rfl⟩⟩
      exact results_row2 (by rfl) _ _ (s + 1) (s + 2) 33 38 _ _ (0, 0) (0, 0) _ _ (by rfl) HX1.out Tryz.underlying33 rfl size33 (by rfl) HX2.out Tryz.underlying38 rfl size38
 ·as_aux_lemma =>
   have hcb : (ce != 0) = true := by simpa using hcz
   have HY := hid_of hcz
   have HRD : Hid (runD p = .error (ce, 0, 0)) := by
    unfold Hid runD plainD
    rw [← HCE.out, if_pos hcz]
    simp only
    rw [if_pos hcz]
    rfl
   clear hcz
   have hkr := kept_row w1 (s + 1) #[.slice none 0 0, .slice none 0 0, .slice none 0 0, .slice none 0 0, .int .i64 0, .int .i64 0]
   have hx := setRow_heap w1 (s + 1) _ #[.slice none 0 0, .slice none 0 0, .slice none 0 0, .slice none 0 0, .int .i64 0, .int .i64 0] 33 (0, 0) HC2.out
   have hz := box_kept hkr HC3.out (fun e => by omega)
   have hkr2 := kept_row (w1.setRow (s + 1) #[.slice none 0 0, .slice none 0 0, .slice none 0 0, .slice none 0 0, .int .i64 0, .int .i64 0]) (s + 2) #[.int .i64 ce, .int .i64 0, .int .i64 0]
   have HX2 := hid_of (setRow_heap _ (s + 2) _ #[.int .i64 ce, .int .i64 0, .int .i64 0] 38 (0, 0) hz)
   have HX1 := hid_of (box_kept hkr2 hx (fun e => by omega))
   have HZ := hid_of hz
   have HKX : Hid (KF w _) := (HKW.out.trans HK1.out).step (hkr.trans' hkr2) (fun j hj e => by have := HGB.out; omega)
   clear hx hkr hz hkr2
   go_upto_region 3 with fail
   go_wp2_with (first | refine wpList_store_row rfl 33 _ _ rfl (s + 1) #[.slice none 0 0, .slice none 0 0, .slice none 0 0, .slice none 0 0, .int .i64 0, .int .i64 0] rfl rfl 33 _ HC2.out size33 rfl (six_one _ _ _ _ _ _ rfl rfl rfl rfl rfl rfl) ?_ | refine wpList_store_row rfl 38 _ _ rfl (s + 2) #[.int .i64 ce, .int .i64 0, .int .i64 0] rfl rfl 38 _ HZ.out size38 rfl (three_one _ _ _ rfl rfl rfl) ?_)
   refine bodyPost_ret (v := .tuple #[.agg #[.slice none 0 0, .slice none 0 0, .slice none 0 0, .slice none 0 0, .int .i64 0, .int .i64 0], .agg #[.int .i64 ce, .int .i64 0, .int .i64 0]]) ?_ rfl ⟨HKX.out, by rw [HRD.out]; exact ⟨HY.out, rfl⟩⟩
   exact results_row2 (by rfl) _ _ (s + 1) (s + 2) 33 38 _ _ (0, 0) (0, 0) _ _ (by rfl) HX1.out Tryz.underlying33 rfl size33 (by rfl) HX2.out Tryz.underlying38 rfl size38
end Go.Proofs.YtcaadgcfceommaaGreat

import Derived.Test.YtcaadgcfceommaaGreatTLb
namespace Go.Proofs.YtcaadgcfceommaaGreat
open Go.RowKit
set_option linter.unusedVariables false
set_option linter.unusedSimpArgs false
set_option maxRecDepth 100000
theorem Tryz.info77b : (Tryz.prog.info? 77).map (fun i => (i.zero, i.size, i.bytes)) = some (some (.agg #[.slice none 0 0, .slice none 0 0, .slice none 0 0, .slice none 0 0]), 4, 96) := by kernel_rfl
theorem push_body {w0 W : World} {v : Value} {k : Nat} {xs : List Value} (h : W.ownsRow w0.heap.size 77 4 v k xs) (x0 x1 x2 x3 : Value) (h0 : x0.oneCell' = true) (h1 : x1.oneCell' = true) (h2 : x2.oneCell' = true) (h3 : x3.oneCell' = true) (hk : KF w0 W) (hl : k ≤ 90000) :
  ∃ v' w', (Builtin.append_ #[74, 74] 74 #[v, .slice (some ⟨W.heap.size, 0, none⟩) 1 1]).run Tryz.prog (W.alloc (.cells #[x0, x1, x2, x3] 77)) = .ok v' w' ∧ w'.ownsRow w0.heap.size 77 4 v' (k + 1) (xs ++ [x0, x1, x2, x3]) ∧ KF w0 w' ∧ Kept (fun q => v.ownBlock = some q) W w' ∧ NewB W v v' := by
 obtain ⟨i0, hi, hz0, hz1, hz2⟩ := info_parts Tryz.info77b
 obtain ⟨v', w', hr, h2', h3', h4, _⟩ := append_old (P := Tryz.prog) (W.alloc (.cells #[x0, x1, x2, x3] 77)) w0.heap.size 74 74 77 i0 _ 4 96 Tryz.underlying74 hi hz0 hz1 hz2 rfl (by decide) v k xs (h.alloc _) ⟨W.heap.size, 0, none⟩ 1 1 [x0, x1, x2, x3] (by simp) (fun j u hj => by
  have hjl := (List.getElem?_eq_some_iff.1 hj).1
  rw [Addr.add_lit, Nat.zero_add, cell_block _ _ _ _ _ _ (heap_alloc_new W _)]
  simpa using hj) (fun u hu => by
   simp at hu
   rcases hu with rfl | rfl | rfl | rfl <;> assumption) (by unfold maxLen; omega) (by omega) (by have := hk.size; simp; omega)
 have hk1 : Kept (fun k => v.ownBlock = some k) W w' := ((Kept.refl _ W).alloc _).grown h3' (fun k hk => .inr hk)
 exact ⟨v', w', hr, h2', hk.step hk1 (fun i hi e => by have := (h.lt i e).1; omega), hk1, by simpa [NewB] using h4⟩
def bodiesD (p : PG) : List FN → Nat → Except (Int × Int × Int) (List BD)
 | [], _ => .ok []
 | f :: fs, i => match bodyD (stepsL p f) f.code.length with
  | .error (x, y) => .error (y, (i : Int), x)
  | .ok b => match bodiesD p fs (i + 1) with
   | .error z => .error z
   | .ok bs => .ok (b :: bs)
def runD (p : PG) : Except (Int × Int × Int) FX :=
 if (plainD p).1 ≠ 0 then .error ((plainD p).1, ((plainD p).2.1 : Int), ((plainD p).2.2 : Int)) else
 match bodiesD p p.fns 0 with
 | .error z => .error z
 | .ok bs => .ok (factsP p bs)
def contD (bs : List BD) (r : Except (Int × Int × Int) (List BD)) : Except (Int × Int × Int) (List BD) := match r with
 | .error z => .error z
 | .ok l => .ok (bs ++ l)
theorem bodies_step (p : PG) (fs : List FN) (k : Nat) (f : FN) (h : fs[k]? = some f) (bs : List BD) : contD bs (bodiesD p (fs.drop k) k) = match bodyD (stepsL p f) f.code.length with
  | .error (x, y) => .error (y, (k : Int), x)
  | .ok b => contD (bs ++ [b]) (bodiesD p (fs.drop (k + 1)) (k + 1)) := by
 have hj : k < fs.length := (List.getElem?_eq_some_iff.1 h).1
 have e : fs[k] = f := (List.getElem?_eq_some_iff.1 h).2
 rw [List.drop_eq_getElem_cons hj, e, bodiesD]
 cases hb : bodyD (stepsL p f) f.code.length with
 | error z => obtain ⟨x, y⟩ := z; rfl
 | ok b =>
  simp only
  cases bodiesD p (fs.drop (k + 1)) (k + 1) with
  | error z => rfl
  | ok l => simp [contD]
structure Bods (w wr : World) (nf k : Nat) (v : Value) (xs : List Value) (bs : List BD) : Prop where
 row : wr.ownsRow w.heap.size 77 4 v k xs
 len : bs.length = k
 at' : ∀ i b, bs[i]? = some b → ∃ gs hv lv ov, (xs[i * 4]? = some (.slice (some ⟨gs, 0, none⟩) b.ss.length b.ss.length) ∧ xs[i * 4 + 1]? = some hv ∧ xs[i * 4 + 2]? = some lv ∧ xs[i * 4 + 3]? = some ov) ∧ BdAt wr w.heap.size gs b.ss.length hv lv ov b ∧ v.ownBlock ≠ some gs ∧ gs < wr.heap.size
 full : ∀ b ∈ bs, BdFull nf b.ss.length b ∧ b.loops.length ≤ 5000
 kept : KF w wr
theorem Bods.same {w wr w' : World} {nf k : Nat} {v : Value} {xs : List Value} {bs : List BD} (h : Bods w wr nf k v xs bs) (hk : KF wr w') : Bods w w' nf k v xs bs :=
 ⟨hk.ownsRow h.row (fun _ _ f => f), h.len, fun i b hb => by
  obtain ⟨gs, hv, lv, ov, h1, h2, h3, h4⟩ := h.at' i b hb
  exact ⟨gs, hv, lv, ov, h1, h2.same hk, h3, Nat.lt_of_lt_of_le h4 hk.size⟩, h.full, h.kept.trans hk⟩
theorem BdAt.over {w w' : World} {B gs n : Nat} {hv lv ov : Value} {b : BD} (h : BdAt w B gs n hv lv ov b) {v : Value} {B' k : Nat} {xs : List Value} (hr : w.ownsRow B' 77 4 v k xs) (hk : Kept (fun q => v.ownBlock = some q) w w') (hg : v.ownBlock ≠ some gs) : BdAt w' B gs n hv lv ov b :=
 ⟨h.len, fun i s hs => by
  obtain ⟨nv, h1, h2⟩ := h.ss i s hs
  exact ⟨nv, range_kept h1 hk hg, hk.ownsRow h2 (fun q hq e => own_two hr h2 (by decide) q e hq)⟩, h.hl, hk.ownsRow h.hs (fun q hq e => own_two hr h.hs (by decide) q e hq), hk.ownsRow h.lo (fun q hq e => own_two hr h.lo (by decide) q e hq), hk.ownsRow h.od (fun q hq e => own_two hr h.od (by decide) q e hq)⟩
theorem Bods.push {w wr w' : World} {nf k : Nat} {v v' : Value} {xs : List Value} {bs : List BD} (h : Bods w wr nf k v xs bs) {gs : Nat} {hv lv ov : Value} {b : BD} (hb : BdAt wr w.heap.size gs b.ss.length hv lv ov b) (hf : BdFull nf b.ss.length b ∧ b.loops.length ≤ 5000) (hg : v.ownBlock ≠ some gs) (hgl : gs < wr.heap.size)
  (ho : w'.ownsRow w.heap.size 77 4 v' (k + 1) (xs ++ [.slice (some ⟨gs, 0, none⟩) b.ss.length b.ss.length, hv, lv, ov])) (hk0 : KF w w') (hk1 : Kept (fun q => v.ownBlock = some q) wr w') (hn : NewB wr v v') :
  Bods w w' nf (k + 1) v' (xs ++ [.slice (some ⟨gs, 0, none⟩) b.ss.length b.ss.length, hv, lv, ov]) (bs ++ [b]) := by
 have hxl : xs.length = k * 4 := h.row.1
 have hne : ∀ g, v.ownBlock ≠ some g → g < wr.heap.size → v'.ownBlock ≠ some g := fun g h1 h2 e => by
  rcases hn with hn | hn
  ·rw [hn] at e; exact h1 e
  ·rw [hn] at e
   simp at e
   omega
 refine ⟨ho, by simp [h.len], fun i c hc => ?_, fun c hc => ?_, hk0⟩
 ·by_cases hi : i < bs.length
  ·rw [List.getElem?_append_left hi] at hc
   obtain ⟨g2, hv2, lv2, ov2, ⟨y0, y1, y2, y3⟩, h2, h3, h4⟩ := h.at' i c hc
   have hik : i < k := by rw [← h.len]; exact hi
   refine ⟨g2, hv2, lv2, ov2, ⟨?_, ?_, ?_, ?_⟩, h2.over h.row hk1 h3, hne g2 h3 h4, Nat.lt_of_lt_of_le h4 hk1.size⟩
   ·rw [List.getElem?_append_left (by omega)]; exact y0
   ·rw [List.getElem?_append_left (by omega)]; exact y1
   ·rw [List.getElem?_append_left (by omega)]; exact y2
   ·rw [List.getElem?_append_left (by omega)]; exact y3
  ·have hil := (List.getElem?_eq_some_iff.1 hc).1
   simp at hil
   have hi2 : i = bs.length := by omega
   subst hi2
   have : c = b := by simpa using hc.symm
   subst this
   rw [h.len]
   refine ⟨gs, hv, lv, ov, ⟨?_, ?_, ?_, ?_⟩, hb.over h.row hk1 hg, hne gs hg hgl, Nat.lt_of_lt_of_le hgl hk1.size⟩
   ·rw [List.getElem?_append_right (by omega), show k * 4 - xs.length = 0 by omega]; rfl
   ·rw [List.getElem?_append_right (by omega), show k * 4 + 1 - xs.length = 1 by omega]; rfl
   ·rw [List.getElem?_append_right (by omega), show k * 4 + 2 - xs.length = 2 by omega]; rfl
   ·rw [List.getElem?_append_right (by omega), show k * 4 + 3 - xs.length = 3 by omega]; rfl
 ·rcases List.mem_append.1 hc with hc | hc
  ·exact h.full c hc
  ·have : c = b := by simpa using hc
   subst this
   exact hf
theorem Bods.rowB {w wr : World} {nf k : Nat} {xs : List Value} {bs : List BD} {g c : Nat} (h : Bods w wr nf k (.slice (some ⟨g, 0, none⟩) k c) xs bs) : RowB wr w.heap.size g bs := fun i b hb => by
 obtain ⟨gs, hv, lv, ov, ⟨y0, y1, y2, y3⟩, h2, h3, h4⟩ := h.at' i b hb
 have hc : ∀ j u, xs[j]? = some u → wr.cell? ⟨g, j, none⟩ = some u := fun j u hu => by
  have := h.row.cells rfl j u hu
  rwa [Addr.add_lit, Nat.zero_add] at this
 refine ⟨gs, hv, lv, ov, fun j u hu => ?_, h2⟩
 match j, hu with
 | 0, hu => cases hu; exact hc _ _ y0
 | 1, hu => cases hu; exact hc _ _ y1
 | 2, hu => cases hu; exact hc _ _ y2
 | 3, hu => cases hu; exact hc _ _ y3
theorem body_loops {ss : List ST} {n : Nat} {b : BD} (h : bodyD ss n = .ok b) : b.loops.length ≤ n ∧ b.ss = ss := by
 unfold bodyD at h
 split at h
 ·cases h
  exact ⟨loopsF_len _ _, rfl⟩
 ·cases h
theorem FactsAt.over {S : Nat → Prop} {w w' : World} {B B' nf : Nat} {v : Value} {fx : FX} (h : FactsAt w B nf v fx) (hk : Kept S w w') (hS : ∀ q, S q → ∃ cs t, w.heap[q]? = some (.cells cs t (0, 0)) ∧ t ≠ 30 ∧ t ≠ 3 ∧ t ≠ 4) (hb : B' ≤ B) : FactsAt w' B' nf v fx := by
 obtain ⟨hvv, tvv, lvv, gl, HV, LV, e, h1, h2, h3, h4, h5, h6⟩ := h
 have hr : ∀ {b e s n : Nat} {u : Value} {xs : List Value}, w.ownsRow b e s u n xs → (e = 30 ∨ e = 3 ∨ e = 4) → w'.ownsRow b e s u n xs := fun hr he => hk.ownsRow hr (fun q hq hs => by
  obtain ⟨cs, t, hbx, t1, t2, t3⟩ := hS q hs
  exact own_box2 hr hbx (by rcases he with rfl | rfl | rfl <;> assumption) hq)
 refine ⟨hvv, tvv, lvv, gl, HV, LV, e, own_mono (hr h1 (by decide)) hb, fun i l hl => ?_, own_mono (hr h3 (by decide)) hb, own_mono (hr h4 (by decide)) hb, fun i l hl => ?_, own_mono (hr h6 (by decide)) hb⟩
 ·obtain ⟨u, a1, a2⟩ := h2 i l hl
  exact ⟨u, a1, hr a2 (by decide)⟩
 ·obtain ⟨u, a1, a2⟩ := h5 i l hl
  exact ⟨u, a1, hr a2 (by decide)⟩
def RunR (p : PG) (nf : Nat) (w : World) (e : Ending) (w' : World) : Prop := KF w w' ∧
 match runD p with
 | .error (y, i, x) => y ≠ 0 ∧ e = .returned (.tuple #[.agg #[.slice none 0 0, .slice none 0 0, .slice none 0 0, .slice none 0 0, .int .i64 0, .int .i64 0], .agg #[.int .i64 y, .int .i64 i, .int .i64 x]])
 | .ok fx => ∃ v, e = .returned (.tuple #[v, .agg #[.int .i64 0, .int .i64 0, .int .i64 0]]) ∧ FactsAt w' w.heap.size nf v fx
set_option maxHeartbeats 16000000 in
theorem run_any (v : Value) (p : PG) (w : World) (B : Nat) (h : PgIs w B v p) (hB : B ≤ w.heap.size) (ho : p.Ok) :
  Calls Tryz.prog 12 #[v] w (RunR p p.fns.length w) := by
 have HPL := hid_of (fun W (hW : KF w W) => plain_any v p W B (h.kept hW (fun _ _ f => f)) (Nat.le_trans hB hW.size) ho)
 have HPG := hid_of h
 obtain ⟨dv, fv, rfl, hd, hdl, hf⟩ := h
 obtain ⟨dao, dc, rfl⟩ := hd.shape
 obtain ⟨fao, fc, rfl⟩ := hf.shape
 obtain ⟨nf, hnf⟩ := nmd (p.fns.length)
 obtain ⟨nd, hnd⟩ := nmd (p.data.length)
 obtain ⟨mem, hmem⟩ := nmd (p.mem)
 rw [← hnf, ← hnd, ← hmem] at HPL HPG ⊢
 obtain ⟨s, hs⟩ := nmd (w.heap.size)
 obtain ⟨W, hW⟩ := nmd (((w.alloc (.cells #[.int .i64 mem, .slice dao nd dc, .slice fao nf fc] 25)).alloc (.cells #[.slice none 0 0, .slice none 0 0, .slice none 0 0, .slice none 0 0, .int .i64 0, .int .i64 0] 33)).alloc (.cells #[.int .i64 0, .int .i64 0, .int .i64 0] 38))
 obtain ⟨hkW, hb1, hb2, hb3⟩ := allocs3 _ _ _ _ _ _ _ _ hW
 rw [← hs] at hb1 hb2 hb3
 have HSZ : Hid (W.heap.size = s + 3) := by unfold Hid; rw [hW, hs]; simp
 have HKW := hid_of hkW
 have HB1 := hid_of hb1
 have HB2 := hid_of hb2
 have HB3 := hid_of hb3
 have HGB := hid_of hs
 have HNF := hid_of hnf
 have HO := hid_of ho
 have HBB := hid_of hB
 have c0 := cell_block _ _ 0 _ _ _ hb1
 have c1 := cell_block _ _ 1 _ _ _ hb1
 have c2 := cell_block _ _ 2 _ _ _ hb1
 have HPL1 := hid_of (HPL.out _ hkW)
 obtain ⟨pe, hpe⟩ := nmd ((plainD p).1)
 obtain ⟨pi, hpi⟩ := nmd (((plainD p).2.1 : Int))
 obtain ⟨pa, hpa⟩ := nmd (((plainD p).2.2 : Int))
 unfold faultV at HPL1
 rw [← hpe, ← hpi, ← hpa] at HPL1
 have HPE := hid_of hpe
 have HPI := hid_of hpi
 have HPA := hid_of hpa
 clear hb1 hb2 hb3 hkW hd hdl hf hnf hnd hmem ho hB HPL hpe hpi hpa
 go_enter Tryz.func12, Tryz.ntmps12
 go_upto_region 1 with fail
 rw [← hW, ← hs]
 clear hW hs
 go_wp2_with fail
 refine HPL1.out.mono ?_
 rintro e w1 ⟨rfl, hk1⟩
 have hkA := hk1.alloc (.cells #[.int .i64 pe, .int .i64 pi, .int .i64 pa] 38)
 have HBX0 := hid_of (heap_alloc_new w1 (.cells #[.int .i64 pe, .int .i64 pi, .int .i64 pa] 38))
 have HK2 := hid_of hkA
 have HGX0 : Hid (W.heap.size ≤ w1.heap.size) := hk1.size
 clear hk1 hkA HPL1 c0 c1 c2
 go_upto_region 2 with fail
 generalize w1.alloc (.cells #[.int .i64 pe, .int .i64 pi, .int .i64 pa] 38) = w2 at *
 generalize w1.heap.size = gx at *
 have HC1 := hid_of (box_kept HK2.out HB1.out id)
 have HC2 := hid_of (box_kept HK2.out HB2.out id)
 have HC3 := hid_of (box_kept HK2.out HB3.out id)
 have g0 := cell_block _ _ 0 _ _ _ HBX0.out
 by_cases hpz : pe = 0
 ·subst hpz
  have hPO := plain_ok p HPE.out.symm
  have hn64 : 1 ≤ nf ∧ nf ≤ 64 := by rw [HNF.out]; exact hPO.1
  have HPO := hid_of hPO.2
  have HRD0 : Hid (runD p = match contD [] (bodiesD p (p.fns.drop 0) 0) with | .error z => .error z | .ok bs => .ok (factsP p bs)) := by
   unfold Hid runD
   rw [if_neg (by rw [← HPE.out]; decide), List.drop_zero]
   cases bodiesD p p.fns 0 with
   | error z => rfl
   | ok l => simp [contD]
  have HBS0 : Hid (Bods W w2 nf 0 (.slice none 0 0) [] []) := ⟨World.ownsRow_nil _ _ _ _, rfl, fun i b hb => by simp at hb, fun b hb => by simp at hb, HK2.out⟩
  have d2 := cell_block _ _ 2 _ _ _ HC1.out
  clear hPO
  go_wp2
  clear g0 d2 HBX0 HGX0 HC1 HC2 HC3
  go_loopw [5, 19] (fun bv iv wr => ∃ (k : Nat) (xs : List Value) (bs : List BD), k ≤ nf ∧ iv = .int .i64 (k : Int) ∧ Hid (Bods W wr nf k bv xs bs) ∧ Hid (runD p = match contD bs (bodiesD p (p.fns.drop k) k) with | .error z => .error z | .ok bs => .ok (factsP p bs))) (fun _ iv _ => nf - (intOf iv).toNat)
  case atStart => exact ⟨0, [], [], by omega, rfl, HBS0, HRD0⟩
  case round =>
   clear HRD0 HBS0 HK2
   obtain ⟨k, xs, bs, hk, rfl, HBS, HRD⟩ := hrel
   by_cases hlt : k < nf
   ·have hltI : (k : Int) < (nf : Int) := by omega
    have hkp : k < p.fns.length := by rw [← HNF.out]; exact hlt
    have hf := List.getElem?_eq_getElem hkp
    generalize p.fns[k] = f at hf
    have HSTEP := hid_of (bodies_step p p.fns k f hf bs)
    have hBo := body_any _ p wr B (HPG.out.kept (HKW.out.trans HBS.out.kept) (fun _ _ f => f)) (Nat.le_trans HBB.out (HKW.out.trans HBS.out.kept).size) HO.out HPO.out (by rw [← HNF.out]; exact hn64.2) k f hf
    rw [← HNF.out] at hBo
    have HBO := hid_of hBo
    have hb1 := box_kept HBS.out.kept HB1.out id
    have c0 := cell_block _ _ 0 _ _ _ hb1
    have c1 := cell_block _ _ 1 _ _ _ hb1
    have c2 := cell_block _ _ 2 _ _ _ hb1
    obtain ⟨vao, vc, hvv⟩ := ownsRow_shape HBS.out.row
    subst hvv
    clear hBo hb1 hf hkp
    go_wp2_with fail
    refine HBO.out.mono ?_
    rintro e w5 ⟨hk5, hm⟩
    generalize hbD : bodyD (stepsL p f) f.code.length = r at *
    cases r with
    | error xy =>
     obtain ⟨x, y⟩ := xy
     obtain ⟨hy, rfl⟩ := hm
     have HY := hid_of hy
     have hyb : (y != 0) = true := by simp; exact hy
     clear hy HBO c0 c1 c2
     obtain ⟨w6, hw6⟩ := nmd ((w5.alloc (.cells #[.slice none 0 0, .slice none 0 0, .slice none 0 0, .slice none 0 0] 77)).alloc (.cells #[.int .i64 y, .int .i64 (k : Int), .int .i64 x] 38))
     obtain ⟨hk6, _, hb38⟩ := allocs2 _ _ _ _ _ _ hw6
     go_upto_region 9 with fail
     rw [← hw6]
     clear hw6
     have HBX := hid_of hb38
     have hkk := HBS.out.kept.trans (hk5.trans hk6)
     have HC2 := hid_of (box_kept hkk HB2.out id)
     have HC3 := hid_of (box_kept hkk HB3.out id)
     have HKK := hid_of hkk
     have HGX : Hid (¬ (w5.heap.size + 1 = s + 1 ∨ w5.heap.size + 1 = s + 2)) := by have h1 := (HBS.out.kept.trans hk5).size; have h2 := HSZ.out; unfold Hid; omega
     have HRE : Hid (runD p = .error (y, (k : Int), x)) := by unfold Hid; rw [HRD.out, HSTEP.out]
     have HRD := HRE
     clear hkk hk5 hk6 hb38 HSTEP HRE hbD
     generalize w5.heap.size + 1 = gx at *
     have g0 := cell_block _ _ 0 _ _ _ HBX.out
     go_upto_region 10 with fail
     clear g0 hyb
     have HSX : Hid (∀ w', Kept (fun q => q = s + 1 ∨ q = s + 2) w6 w' → w'.cell? ⟨gx, 0, none⟩ = some (.int .i64 y) ∧ w'.cell? ⟨gx, 1, none⟩ = some (.int .i64 (k : Int)) ∧ w'.cell? ⟨gx, 2, none⟩ = some (.int .i64 x)) := fun w' hw => ⟨hw.cell (cell_block _ _ 0 _ _ _ HBX.out) HGX.out, hw.cell (cell_block _ _ 1 _ _ _ HBX.out) HGX.out, hw.cell (cell_block _ _ 2 _ _ _ HBX.out) HGX.out⟩
     have hKd : KF w6 (w6).drew := (Kept.refl _ _).drew
     refine wp_region_held_drew (S := fun w' => Kept (fun q => q = s + 1 ∨ q = s + 2) w6 w') (by kernel_rfl) ((Kept.refl _ _).drew) (fun hHeld => ?_)
     generalize (w6).drew = wd at *
     iterate 2
      refine tkn (v := ?_) 0 rfl ?_ ?_; rotate_left 1
      ·intro w hSw; obtain ⟨s0, s1, s2⟩ := HSX.out w hSw; go_simp; try with_reducible rfl
      try simp only [Act.put, tdy]
     obtain ⟨hx, hkx⟩ := set6 wd (s + 1) 33 _ _ _ _ _ _ (.slice none 0 0) (.slice none 0 0) (.slice none 0 0) (.slice none 0 0) (.int .i64 0) (.int .i64 0) (box_kept hKd HC2.out id)
     have hz := box_kept hkx (box_kept hKd HC3.out id) (fun e => by omega)
     obtain ⟨hx2, hkx2⟩ := set3 _ (s + 2) 38 _ _ _ (.int .i64 y) (.int .i64 (k : Int)) (.int .i64 x) hz
     obtain ⟨⟨d0, d1, d2, d3, d4, d5⟩, f0, f1, f2, f3, f4, f5⟩ := look6 (box_kept hKd HC2.out id)
     obtain ⟨t0, t1, t2, u0, u1, u2⟩ := look3 hz
     have HX1 := hid_of (box_kept hkx2 hx (fun e => by omega))
     have HX2 := hid_of hx2
     have hk1 : Kept (fun q => q = s + 1 ∨ q = s + 2) w6 _ := (hKd.mono (fun _ _ f => f.elim)).trans (hkx.mono (fun _ _ e => .inl e))
     have HKS2 := hid_of (hk1.trans (hkx2.mono (fun _ _ e => .inr e)))
     have HKS1 := hid_of hk1
     have HKX : Hid (KF w _) := (HKW.out.trans HKK.out).step HKS2.out (fun j hj e => by have := HGB.out; omega)
     clear hx hkx hz hx2 hkx2 hk1
     refine rdy 2 rfl (fun K hK => ?_)
     go_simp
     refine hK.out _ _ HKS1.out (fun hHeld => ?_)
     clear hK K
     try simp only [Act.put, tdy]
     refine rdy 3 rfl (fun K hK => ?_)
     go_simp
     refine hK.out _ _ HKS2.out (fun hHeld => ?_)
     clear hK K
     try simp only [Act.put, tdy]
     refine wpAnyH_done (by kernel_rfl) ?_ _
     go_wp2
     refine bodyPost_ret (v := .tuple #[.agg #[.slice none 0 0, .slice none 0 0, .slice none 0 0, .slice none 0 0, .int .i64 0, .int .i64 0], .agg #[.int .i64 y, .int .i64 (k : Int), .int .i64 x]]) ?_ rfl ⟨HKX.out, by rw [HRD.out]; exact ⟨HY.out, rfl⟩⟩
     exact results_row2 (by rfl) _ _ (s + 1) (s + 2) 33 38 _ _ (0, 0) (0, 0) _ _ (by rfl) HX1.out Tryz.underlying33 rfl size33 (by rfl) HX2.out Tryz.underlying38 rfl size38
    | ok b =>
     obtain ⟨gs, hv, lv, ov, rfl, hBD, hBF, hgsl⟩ := hm
     obtain ⟨hll, hse⟩ := body_loops hbD
     have hlen := hBD.len
     rw [← hlen] at hBD hBF hll ⊢
     obtain ⟨hao, hc, e1⟩ := ownsRow_shape hBD.hs
     obtain ⟨lao, lc, e2⟩ := ownsRow_shape hBD.lo
     obtain ⟨oao, oc, e3⟩ := ownsRow_shape hBD.od
     rw [hBD.hl] at e1
     generalize b.loops.length = ln at e2
     generalize b.order.length = on at e3
     subst e1 e2 e3
     have hgw : gs < w5.heap.size := by
      have h0 : 0 < b.ss.length := hBF.n1.1
      obtain ⟨nv, hr, _⟩ := hBD.ss 0 _ (List.getElem?_eq_getElem h0)
      have hc0 : w5.cell? ⟨gs, 0, none⟩ = some (.int .i64 b.ss[0].op) := hr 0 _ rfl
      exact World.block_lt_of_cell? w5 _ hc0
     obtain ⟨w6, hw6⟩ := nmd ((w5.alloc (.cells #[.slice (some ⟨gs, 0, none⟩) b.ss.length b.ss.length, .slice hao b.ss.length hc, .slice lao ln lc, .slice oao on oc] 77)).alloc (.cells #[.int .i64 0, .int .i64 0, .int .i64 0] 38))
     obtain ⟨hk6, hb77, hb38⟩ := allocs2 _ _ _ _ _ _ hw6
     have H6 := HBS.out.same (hk5.trans hk6)
     obtain ⟨v', w7, hr, ho, hk0, hk1, hnb⟩ := push_body H6.row (.slice (some ⟨gs, 0, none⟩) b.ss.length b.ss.length) (.slice hao b.ss.length hc) (.slice lao ln lc) (.slice oao on oc) rfl rfl rfl rfl H6.kept (by omega)
     have HN := hid_of (H6.push ((hBD.mono HBS.out.kept.size).same hk6) ⟨hBF, by have := hBF.n1.2; omega⟩ (fun e => by have := (HBS.out.row.lt gs e).2; omega) (Nat.lt_of_lt_of_le hgw hk6.size) ho hk0 hk1 hnb)
     have HRN : Hid (runD p = match contD (bs ++ [b]) (bodiesD p (p.fns.drop (k + 1)) (k + 1)) with | .error z => .error z | .ok bs => .ok (factsP p bs)) := by unfold Hid; rw [HRD.out, HSTEP.out]
     obtain ⟨ao', c', hv'⟩ := ownsRow_shape ho
     obtain ⟨k1, hk1e⟩ := nmd (k + 1)
     rw [← hk1e] at hv'
     subst hv'
     have HR := hid_of hr
     have r0 := cell_block _ _ 0 _ _ _ hb77
     have r1 := cell_block _ _ 1 _ _ _ hb77
     have r2 := cell_block _ _ 2 _ _ _ hb77
     have r3 := cell_block _ _ 3 _ _ _ hb77
     have g0 := cell_block _ _ 0 _ _ _ hb38
     clear hk1e hr ho hk0 hk1 hnb H6 hb77 hb38 hk6 hBD hBF hgsl hgw hlen hll hse hbD HSTEP HRD HBS HBO c0 c1 c2 hk5
     generalize b.ss.length = bn at *
     go_upto_region 9 with fail
     rw [← hw6]
     clear hw6
     go_wp2_with (at_builtin; refine wp_app2 rfl (.tmp 33) (.tmp 35) 74 74 rfl _ _ rfl rfl _ w7 HR.out ?_)
     go_roundw
     case rel => exact ⟨k + 1, _, _, by omega, by go_num, HN, HRN⟩
     case measure => simp [intOf]; omega
   ·have e : k = nf := by omega
    subst e
    have hb := HBS.out
    obtain ⟨gB, cB, hvv⟩ := own_at hb.row (by omega)
    subst hvv
    have hbl : bs.length = p.fns.length := by rw [hb.len, HNF.out]
    have HFA := hid_of (facts_any _ p wr B (HPG.out.kept (HKW.out.trans hb.kept) (fun _ _ f => f)) (Nat.le_trans HBB.out (HKW.out.trans hb.kept).size) bs W.heap.size gB cB hb.rowB (hb.row.lt gB rfl).2 hbl (by rw [hb.len]; exact hn64) (by rw [hb.len]; exact fun b hm => (hb.full b hm).1) (fun b hm => (hb.full b hm).2))
    rw [hb.len] at HFA
    have HRF : Hid (runD p = .ok (factsP p bs)) := by
     unfold Hid
     rw [HRD.out, List.drop_of_length_le (by rw [HNF.out]; omega)]
     simp [bodiesD, contD]
    have hb1 := box_kept hb.kept HB1.out id
    have c0 := cell_block _ _ 0 _ _ _ hb1
    have c1 := cell_block _ _ 1 _ _ _ hb1
    have c2 := cell_block _ _ 2 _ _ _ hb1
    have HKR := hid_of hb.kept
    clear hb hb1 HBS HRD hbl
    go_wp2_with fail
    refine HFA.out.mono ?_
    rintro e w8 ⟨hk8, fv, rfl, hfa⟩
    have hkk := HKR.out.trans hk8
    obtain ⟨hvv, tvv, lvv, gl, HV, LV, e, q1, q2, q3, q4, q5, q6⟩ := id hfa
    subst e
    obtain ⟨hx, hkx⟩ := set6 w8 (s + 1) 33 _ _ _ _ _ _ hvv tvv lvv (.slice (some ⟨gl, 0, none⟩) k k) (.int .i64 (factsP p bs).cells) (.int .i64 (factsP p bs).cost) (box_kept hkk HB2.out id)
    have hz := box_kept hkx (box_kept hkk HB3.out id) (fun e => by omega)
    obtain ⟨hx2, hkx2⟩ := set3 _ (s + 2) 38 _ _ _ (.int .i64 0) (.int .i64 0) (.int .i64 0) hz
    obtain ⟨⟨d0, d1, d2, d3, d4, d5⟩, f0, f1, f2, f3, f4, f5⟩ := look6 (box_kept hkk HB2.out id)
    obtain ⟨t0, t1, t2, u0, u1, u2⟩ := look3 hz
    have HX1 := hid_of (box_kept hkx2 hx (fun e => by omega))
    have HX2 := hid_of hx2
    have HKX : Hid (KF w _) := (HKW.out.trans hkk).step (hkx.trans' hkx2) (fun j hj e => by have := HGB.out; omega)
    have HFF := hid_of (hfa.over (hkx.trans' hkx2) (fun q e => by
     rcases e with rfl | rfl
     ·exact ⟨_, 33, box_kept hkk HB2.out id, by decide, by decide, by decide⟩
     ·exact ⟨_, 38, box_kept hkk HB3.out id, by decide, by decide, by decide⟩) (Nat.le_trans HKW.out.size HKR.out.size))
    obtain ⟨a1, n1, hv1⟩ := ownsRow_shape q1
    obtain ⟨a2, n2, hv2⟩ := ownsRow_shape q3
    obtain ⟨a3, n3, hv3⟩ := ownsRow_shape q4
    generalize (factsP p bs).tops.length = l2 at hv2
    subst hv1 hv2 hv3
    generalize hcc : (factsP p bs).cells = cc at *
    generalize hcd : (factsP p bs).cost = cd at *
    clear hx hkx hz hx2 hkx2 hfa q1 q2 q3 q4 q5 q6 hk8 hkk HFA c0 c1 c2 hcc hcd
    go_wp2
    refine bodyPost_ret (v := .tuple #[.agg #[.slice a1 k n1, .slice a2 l2 n2, .slice a3 k n3, .slice (some ⟨gl, 0, none⟩) k k, .int .i64 cc, .int .i64 cd], .agg #[.int .i64 0, .int .i64 0, .int .i64 0]]) ?_ rfl ⟨HKX.out, by rw [HRF.out]; exact ⟨_, rfl, HFF.out⟩⟩
    exact results_row2 (by rfl) _ _ (s + 1) (s + 2) 33 38 _ _ (0, 0) (0, 0) _ _ (by rfl) HX1.out Tryz.underlying33 rfl size33 (by rfl) HX2.out Tryz.underlying38 rfl size38
 ·have hpb : (pe != 0) = true := by simp; exact hpz
  have HY := hid_of hpz
  have HRD : Hid (runD p = .error (pe, pi, pa)) := by unfold Hid runD; rw [if_pos (by rw [← HPE.out]; exact hpz), ← HPE.out, ← HPI.out, ← HPA.out]
  have HBX := HBX0
  have HGX : Hid (¬ (gx = s + 1 ∨ gx = s + 2)) := by have h1 := HGX0.out; have h2 := HSZ.out; unfold Hid; omega
  clear hpz
  go_upto_region 3 with fail
  clear g0 hpb
  have HSX : Hid (∀ w', Kept (fun q => q = s + 1 ∨ q = s + 2) w2 w' → w'.cell? ⟨gx, 0, none⟩ = some (.int .i64 pe) ∧ w'.cell? ⟨gx, 1, none⟩ = some (.int .i64 pi) ∧ w'.cell? ⟨gx, 2, none⟩ = some (.int .i64 pa)) := fun w' hw => ⟨hw.cell (cell_block _ _ 0 _ _ _ HBX.out) HGX.out, hw.cell (cell_block _ _ 1 _ _ _ HBX.out) HGX.out, hw.cell (cell_block _ _ 2 _ _ _ HBX.out) HGX.out⟩
  have hKd : KF w2 (w2).drew := (Kept.refl _ _).drew
  refine wp_region_held_drew (S := fun w' => Kept (fun q => q = s + 1 ∨ q = s + 2) w2 w') (by kernel_rfl) ((Kept.refl _ _).drew) (fun hHeld => ?_)
  generalize (w2).drew = wd at *
  iterate 2
   refine tkn (v := ?_) 0 rfl ?_ ?_; rotate_left 1
   ·intro w hSw; obtain ⟨s0, s1, s2⟩ := HSX.out w hSw; go_simp; try with_reducible rfl
   try simp only [Act.put, tdy]
  obtain ⟨hx, hkx⟩ := set6 wd (s + 1) 33 _ _ _ _ _ _ (.slice none 0 0) (.slice none 0 0) (.slice none 0 0) (.slice none 0 0) (.int .i64 0) (.int .i64 0) (box_kept hKd HC2.out id)
  have hz := box_kept hkx (box_kept hKd HC3.out id) (fun e => by omega)
  obtain ⟨hx2, hkx2⟩ := set3 _ (s + 2) 38 _ _ _ (.int .i64 pe) (.int .i64 pi) (.int .i64 pa) hz
  obtain ⟨⟨d0, d1, d2, d3, d4, d5⟩, f0, f1, f2, f3, f4, f5⟩ := look6 (box_kept hKd HC2.out id)
  obtain ⟨t0, t1, t2, u0, u1, u2⟩ := look3 hz
  have HX1 := hid_of (box_kept hkx2 hx (fun e => by omega))
  have HX2 := hid_of hx2
  have hk1 : Kept (fun q => q = s + 1 ∨ q = s + 2) w2 _ := (hKd.mono (fun _ _ f => f.elim)).trans (hkx.mono (fun _ _ e => .inl e))
  have HKS2 := hid_of (hk1.trans (hkx2.mono (fun _ _ e => .inr e)))
  have HKS1 := hid_of hk1
  have HKX : Hid (KF w _) := (HKW.out.trans HK2.out).step HKS2.out (fun j hj e => by have := HGB.out; omega)
  clear hx hkx hz hx2 hkx2 hk1
  refine rdy 2 rfl (fun K hK => ?_)
  go_simp
  refine hK.out _ _ HKS1.out (fun hHeld => ?_)
  clear hK K
  try simp only [Act.put, tdy]
  refine rdy 3 rfl (fun K hK => ?_)
  go_simp
  refine hK.out _ _ HKS2.out (fun hHeld => ?_)
  clear hK K
  try simp only [Act.put, tdy]
  refine wpAnyH_done (by kernel_rfl) ?_ _
  go_wp2
  refine bodyPost_ret (v := .tuple #[.agg #[.slice none 0 0, .slice none 0 0, .slice none 0 0, .slice none 0 0, .int .i64 0, .int .i64 0], .agg #[.int .i64 pe, .int .i64 pi, .int .i64 pa]]) ?_ rfl ⟨HKX.out, by rw [HRD.out]; exact ⟨HY.out, rfl⟩⟩
  exact results_row2 (by rfl) _ _ (s + 1) (s + 2) 33 38 _ _ (0, 0) (0, 0) _ _ (by rfl) HX1.out Tryz.underlying33 rfl size33 (by rfl) HX2.out Tryz.underlying38 rfl size38
def smallP : PG := ⟨0, [], [⟨0, 0, 1, [⟨3, 3⟩, ⟨3, 4⟩, ⟨21, 0⟩, ⟨18, 0⟩]⟩]⟩
def smallQ : PG := ⟨0, [], [⟨0, 0, 1, [⟨3, 3⟩, ⟨4, 0⟩, ⟨21, 0⟩, ⟨18, 0⟩]⟩]⟩
theorem small_run : runD smallP = .ok ⟨[[0, 1, 2, 1]], [2], [[]], [true], 3, 4⟩ := by kernel_rfl
theorem small_fault : runD smallQ = .error (134, 0, 2) := by kernel_rfl
theorem pg_four (W : World) (gc gf : Nat) (a0 b0 a1 b1 a2 b2 a3 b3 : Int) (hc : W.heap[gc]? = some (.cells #[.int .i64 a0, .int .i64 b0, .int .i64 a1, .int .i64 b1, .int .i64 a2, .int .i64 b2, .int .i64 a3, .int .i64 b3] 64 (0, 0))) (hf : W.heap[gf]? = some (.cells #[.int .i64 0, .int .i64 0, .int .i64 1, .slice (some ⟨gc, 0, none⟩) 4 4] 56 (0, 0))) :
  PgIs W W.heap.size (.agg #[.int .i64 0, .slice none 0 0, .slice (some ⟨gf, 0, none⟩) 1 1]) ⟨0, [], [⟨0, 0, 1, [⟨a0, b0⟩, ⟨a1, b1⟩, ⟨a2, b2⟩, ⟨a3, b3⟩]⟩]⟩ := by
 have hcl : gc < W.heap.size := by
  rcases Nat.lt_or_ge gc W.heap.size with h | h
  ·exact h
  ·rw [Array.getElem?_eq_none h] at hc; cases hc
 have hfl : gf < W.heap.size := by
  rcases Nat.lt_or_ge gf W.heap.size with h | h
  ·exact h
  ·rw [Array.getElem?_eq_none h] at hf; cases hf
 refine ⟨_, _, rfl, .inl ⟨rfl, none, 0, rfl⟩, fun q hq => (by cases hq), .inr ⟨gf, 0, 1, rfl, hfl, fun i f hi => ?_⟩⟩
 have hi0 : i = 0 := by
  have := (List.getElem?_eq_some_iff.1 hi).1
  simpa using this
 subst hi0
 simp at hi
 subst hi
 refine ⟨.slice (some ⟨gc, 0, none⟩) 4 4, fun j u hu => ?_, .inr ⟨gc, 0, 4, rfl, fun j x hx => ?_⟩, fun q hq _ => by simp [Value.ownBlock] at hq; omega⟩
 ·match j, hu with
  | 0, hu => cases hu; exact cell_block _ _ 0 _ _ _ hf
  | 1, hu => cases hu; exact cell_block _ _ 1 _ _ _ hf
  | 2, hu => cases hu; exact cell_block _ _ 2 _ _ _ hf
  | 3, hu => cases hu; exact cell_block _ _ 3 _ _ _ hf
 ·match j, hx with
  | 0, hx => cases hx; intro l u hu; match l, hu with | 0, hu => cases hu; exact cell_block _ _ 0 _ _ _ hc | 1, hu => cases hu; exact cell_block _ _ 1 _ _ _ hc
  | 1, hx => cases hx; intro l u hu; match l, hu with | 0, hu => cases hu; exact cell_block _ _ 2 _ _ _ hc | 1, hu => cases hu; exact cell_block _ _ 3 _ _ _ hc
  | 2, hx => cases hx; intro l u hu; match l, hu with | 0, hu => cases hu; exact cell_block _ _ 4 _ _ _ hc | 1, hu => cases hu; exact cell_block _ _ 5 _ _ _ hc
  | 3, hx => cases hx; intro l u hu; match l, hu with | 0, hu => cases hu; exact cell_block _ _ 6 _ _ _ hc | 1, hu => cases hu; exact cell_block _ _ 7 _ _ _ hc
theorem size25 : (Tryz.prog.info? 25).map (·.size) = some 3 := by kernel_rfl
theorem small_any (w : World) : Calls Tryz.prog 33 #[] w fun e w' => ∃ gc gf, e = .returned (.agg #[.int .i64 0, .slice none 0 0, .slice (some ⟨gf, 0, none⟩) 1 1]) ∧ w'.heap[gc]? = some (.cells #[.int .i64 3, .int .i64 3, .int .i64 3, .int .i64 4, .int .i64 21, .int .i64 0, .int .i64 18, .int .i64 0] 64 (0, 0)) ∧ w'.heap[gf]? = some (.cells #[.int .i64 0, .int .i64 0, .int .i64 1, .slice (some ⟨gc, 0, none⟩) 4 4] 56 (0, 0)) ∧ w.heap.size ≤ gc ∧ KF w w' := by
 obtain ⟨W, hW⟩ := nmd (((w.alloc (.cells #[.int .i64 0, .slice none 0 0, .slice (some ⟨w.heap.size + 1 + 1, 0, none⟩) 1 1] 25)).alloc (.cells #[.int .i64 3, .int .i64 3, .int .i64 3, .int .i64 4, .int .i64 21, .int .i64 0, .int .i64 18, .int .i64 0] 64)).alloc (.cells #[.int .i64 0, .int .i64 0, .int .i64 1, .slice (some ⟨w.heap.size + 1, 0, none⟩) 4 4] 56))
 obtain ⟨k1, b1, b2, b3⟩ := allocs3 _ _ _ _ _ _ _ _ hW
 have HX := hid_of b1
 have HC := hid_of b2
 have HF := hid_of b3
 have HK := hid_of k1
 clear k1 b1 b2 b3
 go_enter Tryz.func33, Tryz.ntmps33
 go_wp2
 rw [← hW]
 refine bodyPost_ret (v := .agg #[.int .i64 0, .slice none 0 0, .slice (some ⟨w.heap.size + 2, 0, none⟩) 1 1]) ?_ rfl ⟨_, _, rfl, HC.out, HF.out, by omega, HK.out⟩
 exact results_cell_row (by rfl) _ _ w.heap.size 25 _ (0, 0) _ (by rfl) HX.out Tryz.underlying25 rfl size25
theorem fn_ok (l : List IN) (hl : ∀ y ∈ l, y.Ok) (h4 : l.length ≤ 100) : PG.Ok ⟨0, [], [⟨0, 0, 1, l⟩]⟩ :=
 ⟨by simp, ⟨fun x hx => (by simp at hx), by simp⟩, fun f hf => by
  simp at hf
  subst hf
  exact ⟨by simp, by simp, by simp, hl, by simp; omega⟩, by simp⟩
theorem smallP_ok : smallP.Ok := fn_ok _ (fun y hy => by simp at hy; rcases hy with rfl | rfl | rfl | rfl <;> simp [IN.Ok]) (by simp)
theorem smallQ_ok : smallQ.Ok := fn_ok _ (fun y hy => by simp at hy; rcases hy with rfl | rfl | rfl | rfl <;> simp [IN.Ok]) (by simp)
set_option maxHeartbeats 8000000 in
theorem head_any (w : World) : Calls Tryz.prog 10 #[] w fun e w' => e = .returned (.bool true) ∧ KF w w' := by
 have HS := hid_of small_any
 go_enter Tryz.func10, Tryz.ntmps10
 go_wp2_with fail
 refine (HS.out _).mono ?_
 rintro e w1 ⟨gc, gf, rfl, hc1, hf1, _, hk1⟩
 have HR1 := hid_of (run_any _ smallP w1 w1.heap.size (pg_four w1 gc gf 3 3 3 4 21 0 18 0 hc1 hf1) (Nat.le_refl _) smallP_ok)
 rw [show smallP.fns.length = 1 from rfl] at HR1
 have HK1 := hid_of hk1
 clear hc1 hf1 hk1
 go_wp2_with fail
 refine HR1.out.mono ?_
 rintro e w2 ⟨hk2, hm⟩
 rw [small_run] at hm
 obtain ⟨fv, rfl, hvv, tvv, lvv, gl, HV, LV, rfl, h1, h2, h3, h4, h5, h6⟩ := hm
 obtain ⟨u, hu, hou⟩ := h2 0 [0, 1, 2, 1] rfl
 obtain ⟨gh, ch, hh⟩ := own_at h1 (by decide)
 subst hh
 have hcu : w2.cell? ⟨gh, 0, none⟩ = some u := by
  have := h1.cells rfl 0 u hu
  rwa [Addr.add_lit] at this
 obtain ⟨gu, cu, hv, hcz⟩ := own_look hou (i := 2) (by decide)
 subst hv
 obtain ⟨a2, n2, hv2⟩ := ownsRow_shape h3
 obtain ⟨a3, n3, hv3⟩ := ownsRow_shape h4
 subst hv2 hv3
 obtain ⟨w3, hw3⟩ := nmd ((w2.alloc (.cells #[.slice (some ⟨gh, 0, none⟩) 1 ch, .slice a2 1 n2, .slice a3 1 n3, .slice (some ⟨gl, 0, none⟩) 1 1, .int .i64 3, .int .i64 4] 33)).alloc (.cells #[.int .i64 0, .int .i64 0, .int .i64 0] 38))
 obtain ⟨k3, b3, b3'⟩ := allocs2 _ _ _ _ _ _ hw3
 have HB1 := hid_of b3
 have HB2 := hid_of b3'
 have HCU := hid_of (k3.cell hcu id)
 have HCZ := hid_of (k3.cell hcz id)
 have HK3 := hid_of ((HK1.out.trans hk2).trans k3)
 clear h1 h2 h3 h4 h5 h6 hu hou hcu hcz k3 b3 b3' hk2 HK1 HR1
 go_upto_region 2 with fail
 rw [← hw3]
 clear hw3
 generalize w2.heap.size = g1 at *
 go_wp2_with fail
 refine (HS.out _).mono ?_
 rintro e w4 ⟨gd, ge, rfl, hc4, hf4, hgd, hk4⟩
 have hkA := hk4.alloc (.cells #[.int .i64 0, .slice none 0 0, .slice (some ⟨ge, 0, none⟩) 1 1] 25)
 have hkA' : KF w4 (w4.alloc (.cells #[.int .i64 0, .slice none 0 0, .slice (some ⟨ge, 0, none⟩) 1 1] 25)) := (Kept.refl _ _).alloc _
 have hbA := heap_alloc_new w4 (.cells #[.int .i64 0, .slice none 0 0, .slice (some ⟨ge, 0, none⟩) 1 1] 25)
 have hcA := box_kept hkA' hc4 id
 have hfA := box_kept hkA' hf4 id
 have HBA := hid_of hbA
 have HCA := hid_of hcA
 have HFA := hid_of hfA
 have HKA := hid_of hkA
 clear hkA hkA' hbA hcA hfA hc4 hf4 hk4
 go_upto_region 3 with fail
 generalize w4.alloc (.cells #[.int .i64 0, .slice none 0 0, .slice (some ⟨ge, 0, none⟩) 1 1] 25) = w5 at *
 generalize w4.heap.size = g3 at *
 have m0 := cell_block _ _ 0 _ _ _ HBA.out
 have m1 := cell_block _ _ 1 _ _ _ HBA.out
 have m2 := cell_block _ _ 2 _ _ _ HBA.out
 have m3 := cell_block _ _ 3 _ _ _ HFA.out
 have m4 := cell_block _ _ 2 _ _ _ HCA.out
 have m5 := cell_block _ _ 3 _ _ _ HCA.out
 have m6 := frozen_block _ _ 2 _ _ HCA.out
 have m7 := frozen_block _ _ 3 _ _ HCA.out
 have hn1 : ¬ g3 = gd := fun e => by have h := HCA.out; rw [← e, HBA.out] at h; cases h
 have hn2 : ¬ ge = gd := fun e => by have h := HCA.out; rw [← e, HFA.out] at h; cases h
 have hks := (kept_set w5 gd 2 (.int .i64 4)).trans (kept_set (w5.setCell ⟨gd, 2, none⟩ (.int .i64 4)) gd 3 (.int .i64 0))
 have hcS := set_block _ _ 3 _ _ _ (set_block _ _ 2 _ _ _ HCA.out (.int .i64 4)) (.int .i64 0)
 have hbS := box_kept hks HBA.out hn1
 have hfS := box_kept hks HFA.out hn2
 have o0 := cell_block _ _ 0 _ _ _ hbS
 have o1 := cell_block _ _ 1 _ _ _ hbS
 have o2 := cell_block _ _ 2 _ _ _ hbS
 have HR2 := hid_of (run_any _ smallQ _ _ (pg_four _ gd ge 3 3 4 0 21 0 18 0 hcS hfS) (Nat.le_refl _) smallQ_ok)
 have HKS : Hid (KF w3 _) := HKA.out.step hks (fun i hi e => by omega)
 clear hcS hbS hfS hks
 go_upto_region 5 with fail
 clear m0 m1 m2 m3 m4 m5 m6 m7 hn1 hn2 HBA HCA HFA HKA
 generalize (w5.setCell ⟨gd, 2, none⟩ (.int .i64 4)).setCell ⟨gd, 3, none⟩ (.int .i64 0) = w6 at *
 go_wp2_with fail
 refine HR2.out.mono ?_
 rintro e w7 ⟨hk7, hm⟩
 rw [small_fault] at hm
 obtain ⟨_, rfl⟩ := hm
 obtain ⟨w8, hw8⟩ := nmd ((w7.alloc (.cells #[.slice none 0 0, .slice none 0 0, .slice none 0 0, .slice none 0 0, .int .i64 0, .int .i64 0] 33)).alloc (.cells #[.int .i64 134, .int .i64 0, .int .i64 2] 38))
 obtain ⟨k8, _, b8⟩ := allocs2 _ _ _ _ _ _ hw8
 have hkk := HKS.out.trans (hk7.trans k8)
 obtain ⟨⟨r0, r1, r2, r3, r4, r5⟩, _⟩ := look6 (box_kept hkk HB1.out id)
 obtain ⟨t0, t1, t2, _⟩ := look3 (box_kept hkk HB2.out id)
 obtain ⟨y0, y1, y2, _⟩ := look3 b8
 have z0 := hkk.cell HCU.out id
 have z1 : w8.cell? ⟨gu, 2, none⟩ = some (.int .i64 2) := hkk.cell HCZ.out id
 have HKF := hid_of (HK3.out.trans hkk)
 clear hkk k8 b8 hk7 HKS HB1 HB2 HCU HCZ HK3 HR2 o0 o1 o2
 go_upto_region 6 with fail
 rw [← hw8]
 clear hw8
 go_wp2
 go_ret
 exact ⟨rfl, HKF.out⟩
end Go.Proofs.YtcaadgcfceommaaGreat

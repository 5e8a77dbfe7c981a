import Derived.Test.YtcaadgcfceommaaGreatTKx
import Derived.WalkKit
import Derived.ProofKit
import Derived.MapKept
namespace Go.Proofs.YtcaadgcfceommaaGreat
open Go.RowKit
set_option linter.unusedVariables false
set_option linter.unusedSimpArgs false
set_option maxRecDepth 100000
def bd0 : BD := ⟨[], [], [], []⟩
def RowB (w : World) (B g : Nat) (bs : List BD) : Prop := ∀ i b, bs[i]? = some b → ∃ gs hv lv ov, w.rangeAt g (i * 4) [.slice (some ⟨gs, 0, none⟩) b.ss.length b.ss.length, hv, lv, ov] ∧ BdAt w B gs b.ss.length hv lv ov b
theorem RowB.same {w w' : World} {B g : Nat} {bs : List BD} (h : RowB w B g bs) (hk : KF w w') : RowB w' B g bs := fun i b hb => by
 obtain ⟨gs, hv, lv, ov, h1, h2⟩ := h i b hb
 exact ⟨gs, hv, lv, ov, range_kept h1 hk id, h2.same hk⟩
theorem rowB_look {w : World} {B g : Nat} {bs : List BD} (h : RowB w B g bs) {q : Nat} (hq : q < bs.length) : ∃ gs hao hc lao ll lc oao ol oc, w.cell? ⟨g, q * 4, none⟩ = some (.slice (some ⟨gs, 0, none⟩) (bs.getD q bd0).ss.length (bs.getD q bd0).ss.length) ∧ w.cell? ⟨g, q * 4 + 1, none⟩ = some (.slice hao (bs.getD q bd0).ss.length hc) ∧ w.cell? ⟨g, q * 4 + 2, none⟩ = some (.slice lao ll lc) ∧ w.cell? ⟨g, q * 4 + 3, none⟩ = some (.slice oao ol oc) ∧
  BdAt w B gs (bs.getD q bd0).ss.length (.slice hao (bs.getD q bd0).ss.length hc) (.slice lao ll lc) (.slice oao ol oc) (bs.getD q bd0) ∧ ll = (bs.getD q bd0).loops.length ∧ bs.getD q bd0 ∈ bs := by
 have e : bs.getD q bd0 = bs[q] := by simp [List.getD, List.getElem?_eq_getElem hq]
 obtain ⟨gs, hv, lv, ov, h1, h2⟩ := h q _ (List.getElem?_eq_getElem hq)
 rw [e]
 obtain ⟨hao, hc, e1⟩ := ownsRow_shape h2.hs
 obtain ⟨lao, lc, e2⟩ := ownsRow_shape h2.lo
 obtain ⟨oao, oc, e3⟩ := ownsRow_shape h2.od
 rw [h2.hl] at e1
 subst e1 e2 e3
 exact ⟨gs, hao, hc, lao, _, lc, oao, _, oc, h1 0 _ rfl, h1 1 _ rfl, h1 2 _ rfl, h1 3 _ rfl, h2, rfl, List.getElem_mem hq⟩
def locOf (p : PG) (q : Nat) : Int := ((p.fns[q]?).map (fun f => f.l)).getD 0
def cellG (p : PG) (bs : List BD) (cs : List Int) (m : Int) : List Int := cs.set m.toNat (cellsP (bs.getD m.toNat bd0) (locOf p m.toNat) cs)
def cellsOfP (p : PG) (bs : List BD) (order : List Int) : Int := (order.foldl (cellG p bs) (List.replicate bs.length 0)).getD 0 0
set_option maxHeartbeats 8000000 in
theorem cellsOf_any (v : Value) (p : PG) (w : World) (B : Nat) (h : PgIs w B v p) (hB : B ≤ w.heap.size) (bs : List BD) (B2 gB cB : Nat) (hbs : RowB w B2 gB bs) (hgB : gB < w.heap.size) (hlen : bs.length = p.fns.length) (hn64 : 1 ≤ bs.length ∧ bs.length ≤ 64) (hfull : ∀ b ∈ bs, BdFull bs.length b.ss.length b)
  (ov : Value) (order : List Int) (B3 : Nat) (hor : OwnN w B3 ov order) (hol : order.length ≤ bs.length) (hom : ∀ m ∈ order, 0 ≤ m ∧ m < bs.length) :
  Calls Tryz.prog 68 #[v, .slice (some ⟨gB, 0, none⟩) bs.length cB, ov] w fun e w' => e = .returned (.int .i64 (cellsOfP p bs order)) ∧ KF w w' := by
 obtain ⟨dv, fv, rfl, hd, hdl, hf⟩ := h
 obtain ⟨dao, dc, rfl⟩ := hd.shape
 obtain ⟨fao, fc, rfl⟩ := hf.shape
 obtain ⟨oao, oc, rfl⟩ := ownsRow_shape hor
 rw [← hlen]
 rw [← hlen] at hf
 have HLEN := hid_of hlen
 obtain ⟨nf, hnf⟩ := nmd (bs.length)
 obtain ⟨nd, hnd⟩ := nmd (p.data.length)
 obtain ⟨mem, hmem⟩ := nmd (p.mem)
 obtain ⟨mo, hmo⟩ := nmd (order.length)
 rw [← hnf] at hn64 hfull hol hom hf
 rw [← hmo] at hol hor
 rw [← hnf, ← hnd, ← hmem, ← hmo]
 have hkA : KF w (w.alloc (.cells #[.int .i64 mem, .slice dao nd dc, .slice fao nf fc] 25)) := (Kept.refl _ _).alloc _
 have hbA := heap_alloc_new w (.cells #[.int .i64 mem, .slice dao nd dc, .slice fao nf fc] 25)
 have hMI := makeInt (w.alloc (.cells #[.int .i64 mem, .slice dao nd dc, .slice fao nf fc] 25)) nf (by omega)
 have hk1 := hkA.alloc (.cells (zint nf) 3)
 have hb1 := heap_alloc_new (w.alloc (.cells #[.int .i64 mem, .slice dao nd dc, .slice fao nf fc] 25)) (.cells (zint nf) 3)
 have hbB := box_kept ((Kept.refl (fun _ => False) _).alloc (.cells (zint nf) 3)) hbA id
 have hown := own_zero _ w.heap.size _ nf hb1 (by simp) (by omega)
 rw [show (w.alloc (.cells #[.int .i64 mem, .slice dao nd dc, .slice fao nf fc] 25)).heap.size = w.heap.size + 1 by simp] at hown
 have HOW := hid_of hown
 have HK1 := hid_of hk1
 have HBB := hid_of hbB
 have HRB := hid_of hbs
 have HGL : Hid (B ≤ w.heap.size ∧ gB < w.heap.size ∧ w.heap.size < w.heap.size + 1) := ⟨hB, hgB, by omega⟩
 have HF := hid_of hf
 have HFU := hid_of hfull
 have HOR := hid_of hor
 have HOM := hid_of hom
 have HMO := hid_of hmo
 have HNF := hid_of hnf
 have hn0 : (0 : Int) ≤ (nf : Int) := by omega
 have HT : Hid (cellsOfP p bs order = ((order.drop 0).foldl (cellG p bs) (List.replicate nf 0)).getD 0 0) := by unfold Hid cellsOfP; rw [hnf]; rfl
 obtain ⟨tp, htp⟩ := nmd (cellsOfP p bs order)
 rw [← htp] at HT ⊢
 have HL0 : Hid ((List.replicate nf (0 : Int)).length = nf) := by simp [Hid]
 generalize List.replicate nf (0 : Int) = l0 at *
 clear hk1 hb1 hbB hown htp hkA hbA hf hbs hfull hor hom hmo hnf hd hdl hlen hB hgB hnd hmem
 go_enter Tryz.func68, Tryz.ntmps68
 go_wp2
 clear hMI
 generalize (w.alloc (.cells #[.int .i64 mem, .slice dao nd dc, .slice fao nf fc] 25)).alloc (.cells (zint nf) 3) = w1 at *
 generalize hgc : w.heap.size + 1 = gc at *
 clear hgc
 obtain ⟨gb, hgb⟩ := nmd (w.heap.size)
 rw [← hgb] at HBB ⊢
 clear hgb
 go_loopw [15] (fun iv wr => ∃ (k : Nat) (cs : List Int), k ≤ mo ∧ iv = .int .i64 (k : Int) ∧ Hid (tp = ((order.drop k).foldl (cellG p bs) cs).getD 0 0) ∧ Hid (cs.length = nf) ∧ Hid (OwnN wr w.heap.size (.slice (some ⟨gc, 0, none⟩) nf nf) cs) ∧ Hid (KF w wr) ∧ Hid (wr.heap[gb]? = some (.cells #[.int .i64 mem, .slice dao nd dc, .slice fao nf fc] 25 (0, 0)))) (fun iv _ => mo - (intOf iv).toNat)
 case atStart => exact ⟨0, l0, by omega, rfl, HT, HL0, HOW, HK1, HBB⟩
 case round =>
  clear HT HL0 HOW HK1 HBB
  obtain ⟨k, cs, hk, rfl, HT, HCS, HOW, HK, HBX⟩ := hrel
  by_cases hlt : k < mo
  ·have hltI : (k : Int) < (mo : Int) := by omega
   have hkl : k < order.length := by rw [← HMO.out]; exact hlt
   have hmm := getD_mem hkl
   obtain ⟨q, hq⟩ : ∃ q : Nat, order.getD k 0 = (q : Int) := ⟨(order.getD k 0).toNat, by have := (HOM.out _ hmm).1; omega⟩
   have hqn : q < nf := by have := (HOM.out _ hmm).2; omega
   have hqI : (q : Int) < (nf : Int) := by omega
   obtain ⟨go, co, e1, hco⟩ := own_look (HK.out.ownsRow (show OwnN w B3 (.slice oao mo oc) order from HMO.out ▸ HOR.out) (fun _ _ f => f)) hkl
   simp only [Value.slice.injEq] at e1
   obtain ⟨rfl, hx8, rfl⟩ := e1
   clear hx8
   rw [hq] at hco
   obtain ⟨gf, o, f, hao, hgf, hff, hfa⟩ := (HF.out.kept HK.out (fun _ _ f => f)).at (i := q) (by rw [← HLEN.out, ← HNF.out]; exact hqn)
   subst hao
   obtain ⟨cao, cc, x0, x1, x2, x3, hri, hcl⟩ := fn_read hfa
   obtain ⟨gs, hao, hc, lao, ll, lc, ao2, ol, oc2, y0, y1, y2, y3, hBD, hll, hbm⟩ := rowB_look (HRB.out.same HK.out) (q := q) (by rw [← HNF.out]; exact hqn)
   have hFu := HFU.out _ hbm
   have HTN : Hid (tp = ((order.drop (k + 1)).foldl (cellG p bs) (cs.set q (cellsP (bs.getD q bd0) f.l cs))).getD 0 0) := by
    unfold Hid
    rw [HT.out, List.drop_eq_getElem_cons hkl]
    have e : order[k] = (q : Int) := by rw [← hq]; simp [List.getD, List.getElem?_eq_getElem hkl]
    rw [e]
    show List.getD (List.foldl _ (cellG p bs cs (q : Int)) _) _ _ = _
    unfold cellG locOf
    rw [Int.toNat_natCast, hff]
    rfl
   generalize bs.getD q bd0 = b at *
   have HCE := hid_of (fun W (hW : KF wr W) => cells_any W B2 gs b.ss.length _ _ _ b (hBD.same hW) hFu.toBdOk f.l _ cs w.heap.size (hW.ownsRow HOW.out (fun _ _ f => f)) (by rw [HCS.out]; exact hFu.cl) (by rw [HCS.out]; omega))
   generalize cellsP b f.l cs = cp at *
   generalize b.ss.length = bn at *
   generalize f.l = fl at *
   obtain ⟨g6, c6, e6, hcz⟩ := own_look HOW.out (i := q) (by rw [HCS.out]; exact hqn)
   simp only [Value.slice.injEq, Option.some.injEq, Addr.mk.injEq] at e6
   obtain ⟨⟨rfl, hz1⟩, hz2, rfl⟩ := e6
   clear hz1 hz2
   generalize cs.getD q 0 = cz at *
   have HSM : Hid (∀ w', Kept (fun k => k = gc) wr w' → w'.cell? ⟨gb, 2, none⟩ = some (.slice (some ⟨gf, o, none⟩) nf fc) ∧ w'.cell? ⟨gf, o + q * 4 + 1, none⟩ = some (.int .i64 fl) ∧ w'.cell? ⟨gB, q * 4, none⟩ = some (.slice (some ⟨gs, 0, none⟩) bn bn) ∧ w'.cell? ⟨gB, q * 4 + 1, none⟩ = some (.slice hao bn hc) ∧ w'.cell? ⟨gB, q * 4 + 2, none⟩ = some (.slice lao ll lc) ∧ w'.cell? ⟨gB, q * 4 + 3, none⟩ = some (.slice ao2 ol oc2)) := fun w' hw =>
    ⟨hw.cell (cell_block _ _ 2 _ _ _ HBX.out) (fun (e : gb = gc) => own_box2 HOW.out HBX.out (by decide) (by rw [e]; rfl)), hw.cell x1 (fun (e : gf = gc) => by have := HGL.out; omega), hw.cell y0 (fun (e : gB = gc) => by have := HGL.out; omega), hw.cell y1 (fun (e : gB = gc) => by have := HGL.out; omega), hw.cell y2 (fun (e : gB = gc) => by have := HGL.out; omega), hw.cell y3 (fun (e : gB = gc) => by have := HGL.out; omega)⟩
   clear x0 x1 x2 x3 hri hcl hfa hff y0 y1 y2 y3 hBD hll hbm hFu hkl hmm hq HT
   go_upto_region 5 with fail
   clear hco
   have hKwd : KF wr wr.drew := (Kept.refl _ _).drew
   refine wp_region_held_drew (S := fun w' => Kept (fun k => k = gc) wr w') (by kernel_rfl) ((Kept.refl _ _).drew) (fun hHeld => ?_)
   generalize wr.drew = wd at *
   have HCC := hid_of (HCE.out _ hKwd)
   iterate 13
    refine tkn (v := ?_) 0 rfl ?_ ?_; rotate_left 1
    ·intro w hSw; obtain ⟨s0, s1, s2, s3, s4, s5⟩ := HSM.out w hSw; go_simp; try with_reducible rfl
    try simp only [Act.put, tdy]
   refine rdy 13 rfl (fun K hK => ?_)
   go_simp
   refine HCC.out.mono ?_
   rintro e w5 ⟨rfl, hk5⟩
   have HK5 := hid_of (hKwd.trans hk5)
   have e5 := HK5.out.cell hcz id
   have f5 := own_frz (HK5.out.ownsRow HOW.out (fun _ _ f => f)) q
   refine hK.out _ _ (hHeld.trans (hk5.mono (fun _ _ f => f.elim))) (fun hHeld => ?_)
   clear hK K
   try simp only [Act.put, tdy]
   iterate 1
    refine tkn (v := ?_) 14 rfl ?_ ?_; rotate_left 1
    ·intro w hSw; go_simp; try with_reducible rfl
    try simp only [Act.put, tdy]
   refine rdy 15 rfl (fun K hK => ?_)
   go_simp
   refine hK.out _ _ (hHeld.setCell (.inr rfl) _) (fun hHeld => ?_)
   clear hK K
   try simp only [Act.put, tdy]
   refine wpAnyH_done (by kernel_rfl) ?_ _
   obtain ⟨ho9, hk9⟩ := own_put (HK5.out.ownsRow HOW.out (fun _ _ f => f)) (HK.out.trans HK5.out) q cp
   have hb5 := box_kept HK5.out HBX.out id
   have HB9 := hid_of (box_kept (kept_set w5 gc q (.int .i64 cp)) hb5 (fun (e : gb = gc) => own_box2 HOW.out HBX.out (by decide) (by rw [e]; rfl)))
   have HO9 := hid_of ho9
   have HK9 := hid_of hk9
   have HL9 : Hid ((cs.set q cp).length = nf) := by unfold Hid; rw [List.length_set]; exact HCS.out
   clear ho9 hk9 hb5 hHeld HSM HCE HCC HK5 hKwd hk5 e5 f5 hcz HOW HK HBX HCS
   go_wp2
   go_roundw
   case rel => exact ⟨k + 1, _, by omega, by go_num, HTN, HL9, HO9, HK9, HB9⟩
   case measure => simp [intOf]; omega
  ·have e : k = mo := by omega
   subst e
   have HX : Hid (tp = cs.getD 0 0) := by
    have := HT.out
    rw [List.drop_of_length_le (by rw [← HMO.out]; omega)] at this
    exact this
   obtain ⟨g0, cp0, e0, h0⟩ := own_look HOW.out (i := 0) (by rw [HCS.out]; omega)
   simp only [Value.slice.injEq, Option.some.injEq, Addr.mk.injEq] at e0
   obtain ⟨⟨rfl, hz1⟩, hz2, rfl⟩ := e0
   clear hz1 hz2
   have hnI : (0 : Int) < (nf : Int) := by omega
   generalize cs.getD 0 0 = cz at *
   clear HT HCS HOW HBX
   go_wp2
   go_ret
   refine ⟨?_, HK.out⟩
   rw [HX.out]
   rfl
def costG (bs : List BD) : List Int → List Int → Option (List Int)
 | [], cs => some cs
 | m :: ms, cs => if 0 < (bs.getD m.toNat bd0).loops.length then none else if 1099511627776 < costP (bs.getD m.toNat bd0) (bs.getD m.toNat bd0).ss.length cs then none else costG bs ms (cs.set m.toNat (costP (bs.getD m.toNat bd0) (bs.getD m.toNat bd0).ss.length cs))
def costOfP (bs : List BD) (order : List Int) : Int := match costG bs order (List.replicate bs.length 0) with
 | some cs => cs.getD 0 0
 | none => -1
set_option maxHeartbeats 8000000 in
theorem costOf_any (w : World) (bs : List BD) (B2 gB cB : Nat) (hbs : RowB w B2 gB bs) (hgB : gB < w.heap.size) (hn64 : 1 ≤ bs.length ∧ bs.length ≤ 64) (hfull : ∀ b ∈ bs, BdFull bs.length b.ss.length b)
  (hll4 : ∀ b ∈ bs, b.loops.length ≤ 5000) (ov : Value) (order : List Int) (B3 : Nat) (hor : OwnN w B3 ov order) (hol : order.length ≤ bs.length) (hom : ∀ m ∈ order, 0 ≤ m ∧ m < bs.length) :
  Calls Tryz.prog 69 #[.slice (some ⟨gB, 0, none⟩) bs.length cB, ov] w fun e w' => e = .returned (.int .i64 (costOfP bs order)) ∧ KF w w' := by
 obtain ⟨oao, oc, rfl⟩ := ownsRow_shape hor
 obtain ⟨nf, hnf⟩ := nmd (bs.length)
 obtain ⟨mo, hmo⟩ := nmd (order.length)
 rw [← hnf] at hn64 hfull hol hom
 rw [← hmo] at hol hor
 rw [← hnf, ← hmo]
 have hMI := makeInt w nf (by omega)
 have hk1 : KF w (w.alloc (.cells (zint nf) 3)) := (Kept.refl _ _).alloc _
 have hb1 := heap_alloc_new w (.cells (zint nf) 3)
 have hown := own_zero _ w.heap.size _ nf hb1 (by simp) (by omega)
 have HOW := hid_of hown
 have HK1 := hid_of hk1
 have HRB := hid_of hbs
 have HGL := hid_of hgB
 have HFU := hid_of hfull
 have HOR := hid_of hor
 have HOM := hid_of hom
 have HMO := hid_of hmo
 have HNF := hid_of hnf
 have HL4 := hid_of hll4
 have hn0 : (0 : Int) ≤ (nf : Int) := by omega
 have HT : Hid (costOfP bs order = ((costG bs (order.drop 0) (List.replicate nf 0)).map (fun cs => cs.getD 0 0)).getD (-1)) := by
  unfold Hid costOfP
  rw [hnf, List.drop_zero]
  cases costG bs order (List.replicate bs.length 0) <;> rfl
 obtain ⟨tp, htp⟩ := nmd (costOfP bs order)
 rw [← htp] at HT ⊢
 have HL0 : Hid ((List.replicate nf (0 : Int)).length = nf) := by simp [Hid]
 generalize List.replicate nf (0 : Int) = l0 at *
 clear hk1 hb1 hown htp hbs hfull hor hom hmo hnf hgB hll4
 go_enter Tryz.func69, Tryz.ntmps69
 go_wp2
 clear hMI
 generalize w.alloc (.cells (zint nf) 3) = w1 at *
 obtain ⟨gc, hgc⟩ := nmd (w.heap.size)
 have HOW' : Hid (OwnN w1 w.heap.size (.slice (some ⟨gc, 0, none⟩) nf nf) l0) := by rw [hgc]; exact HOW
 rw [← hgc]
 clear hgc HOW
 go_loopw [13] (fun iv wr => ∃ (k : Nat) (cs : List Int), k ≤ mo ∧ iv = .int .i64 (k : Int) ∧ Hid (tp = ((costG bs (order.drop k) cs).map (fun cs => cs.getD 0 0)).getD (-1)) ∧ Hid (cs.length = nf) ∧ Hid (OwnN wr w.heap.size (.slice (some ⟨gc, 0, none⟩) nf nf) cs) ∧ Hid (KF w wr)) (fun iv _ => mo - (intOf iv).toNat)
 case atStart => exact ⟨0, l0, by omega, rfl, HT, HL0, HOW', HK1⟩
 case round =>
  clear HT HL0 HOW' HK1
  obtain ⟨k, cs, hk, rfl, HT, HCS, HOW, HK⟩ := hrel
  by_cases hlt : k < mo
  ·have hltI : (k : Int) < (mo : Int) := by omega
   have hkl : k < order.length := by rw [← HMO.out]; exact hlt
   have hmm := getD_mem hkl
   obtain ⟨q, hq⟩ : ∃ q : Nat, order.getD k 0 = (q : Int) := ⟨(order.getD k 0).toNat, by have := (HOM.out _ hmm).1; omega⟩
   have hqn : q < nf := by have := (HOM.out _ hmm).2; omega
   have hqI : (q : Int) < (nf : Int) := by omega
   obtain ⟨go, co, e1, hco⟩ := own_look (HK.out.ownsRow (show OwnN w B3 (.slice oao mo oc) order from HMO.out ▸ HOR.out) (fun _ _ f => f)) hkl
   simp only [Value.slice.injEq] at e1
   obtain ⟨rfl, hx8, rfl⟩ := e1
   clear hx8
   rw [hq] at hco
   obtain ⟨gs, hao, hc, lao, ll, lc, ao2, ol, oc2, y0, y1, y2, y3, hBD, hll, hbm⟩ := rowB_look (HRB.out.same HK.out) (q := q) (by rw [← HNF.out]; exact hqn)
   have hFu := HFU.out _ hbm
   have hl4 := HL4.out _ hbm
   rw [← hll] at hl4
   have HTN : Hid (tp = ((if 0 < ll then none else if 1099511627776 < costP (bs.getD q bd0) (bs.getD q bd0).ss.length cs then none else costG bs (order.drop (k + 1)) (cs.set q (costP (bs.getD q bd0) (bs.getD q bd0).ss.length cs))).map (fun cs => cs.getD 0 0)).getD (-1)) := by
    unfold Hid
    rw [HT.out, List.drop_eq_getElem_cons hkl]
    have e : order[k] = (q : Int) := by rw [← hq]; simp [List.getD, List.getElem?_eq_getElem hkl]
    rw [e, costG, Int.toNat_natCast, hll]
   generalize bs.getD q bd0 = b at *
   have HCE := hid_of (cost_any wr B2 gs b.ss.length _ _ _ b hBD hFu.toBdOk _ cs w.heap.size HOW.out (by rw [HCS.out]; exact hFu.cl) (by rw [HCS.out]; omega) hFu.nx)
   generalize costP b b.ss.length cs = cp at *
   generalize b.ss.length = bn at *
   clear hBD hll hbm hFu hkl hmm hq HT
   by_cases h0 : 0 < ll
   ·have h0I : (0 : Int) < (ll : Int) := by omega
    have HX : Hid (tp = -1) := by
     have := HTN.out
     rw [if_pos h0] at this
     exact this
    clear HTN h0
    go_wp2
    go_ret
    exact ⟨by rw [HX.out]; rfl, HK.out⟩
   ·have h0I : ll = 0 := by omega
    subst h0I
    rw [if_neg h0] at HTN
    clear h0
    go_wp2_with fail
    refine HCE.out.mono ?_
    rintro e w5 ⟨rfl, hk5⟩
    have HO5 := hid_of (hk5.ownsRow HOW.out (fun _ _ f => f))
    have HK5 := hid_of (HK.out.trans hk5)
    obtain ⟨g6, c6, e6, hcz⟩ := own_look HO5.out (i := q) (by rw [HCS.out]; exact hqn)
    simp only [Value.slice.injEq, Option.some.injEq, Addr.mk.injEq] at e6
    obtain ⟨⟨rfl, hz1⟩, hz2, rfl⟩ := e6
    clear hz1 hz2
    have f5 := own_frz HO5.out q
    generalize cs.getD q 0 = cz at *
    obtain ⟨ho9, hk9⟩ := own_put HO5.out HK5.out q cp
    have HO9 := hid_of ho9
    have HK9 := hid_of hk9
    have HL9 : Hid ((cs.set q cp).length = nf) := by unfold Hid; rw [List.length_set]; exact HCS.out
    clear ho9 hk9 hk5 HCE HO5 HK5 HOW HK HCS hco y0 y1 y2 y3
    by_cases hbig : 1099511627776 < cp
    ·have HX : Hid (tp = -1) := by
      have := HTN.out
      rw [if_pos hbig] at this
      exact this
     clear HTN
     go_wp2
     go_ret
     exact ⟨by rw [HX.out]; rfl, HK9.out⟩
    ·rw [if_neg hbig] at HTN
     go_wp2
     go_roundw
     case rel => exact ⟨k + 1, _, by omega, by go_num, HTN, HL9, HO9, HK9⟩
     case measure => simp [intOf]; omega
  ·have e : k = mo := by omega
   subst e
   have HX : Hid (tp = cs.getD 0 0) := by
    have := HT.out
    rw [List.drop_of_length_le (by rw [← HMO.out]; omega)] at this
    exact this
   obtain ⟨g0, cp0, e0, h0⟩ := own_look HOW.out (i := 0) (by rw [HCS.out]; omega)
   simp only [Value.slice.injEq, Option.some.injEq, Addr.mk.injEq] at e0
   obtain ⟨⟨rfl, hz1⟩, hz2, rfl⟩ := e0
   clear hz1 hz2
   have hnI : (0 : Int) < (nf : Int) := by omega
   generalize cs.getD 0 0 = cz at *
   clear HT HCS HOW
   go_wp2
   go_ret
   refine ⟨?_, HK.out⟩
   rw [HX.out]
   rfl
abbrev OwnL (w : World) (base : Nat) (v : Value) (n : Nat) (l : List Bool) : Prop := w.ownsRow base 4 1 v n (bools l)
theorem indexB_any (ao : Option Addr) (c n : Nat) (l : List Bool) (w : World) (base : Nat) (h : OwnL w base (.slice ao n c) n l) (hll : l.length = n) (hl : n ≤ 10000) :
  Calls Tryz.prog 91 #[.slice ao n c, .bool true] w fun e w' => (∃ k : Int, e = .returned (.int .i64 k) ∧ (0 ≤ k ↔ true ∈ l) ∧ -1 ≤ k ∧ k ≤ 10000) ∧ w' = w := by
 have HC : Hid (∀ i, i < n → ∃ g, ao = some ⟨g, 0, none⟩ ∧ w.cell? ⟨g, i, none⟩ = some (.bool (l.getD i false))) := fun i hi => by
  rcases h.2 with ⟨e, h0⟩ | ⟨g, cap, cur, e, _⟩
  ·omega
  ·cases e
   refine ⟨g, rfl, ?_⟩
   have := h.cells rfl i (.bool (l.getD i false)) (by simp [bools, List.getD, List.getElem?_eq_getElem (show i < l.length by omega)])
   rwa [Addr.add_lit, Nat.zero_add] at this
 have HN := hid_of hll
 clear h hll
 go_enter Tryz.func91, Tryz.ntmps91
 go_wp2
 go_loopw [8] (fun iv wr => ∃ k : Nat, k ≤ n ∧ iv = .int .i64 (k : Int) ∧ wr = w ∧ Hid (true ∉ l.take k)) (fun iv _ => n - (intOf iv).toNat)
 case atStart => exact ⟨0, by omega, rfl, rfl, by simp [Hid]⟩
 case round =>
  obtain ⟨k, hk, rfl, rfl, HT⟩ := hrel
  by_cases hlt : k < n
  ·have hltI : (k : Int) < (n : Int) := by omega
   obtain ⟨g, hao, hc⟩ := HC.out k hlt
   subst hao
   have hkl : k < l.length := by rw [HN.out]; exact hlt
   have HE : Hid (l[k]? = some (l.getD k false)) := by simp [Hid, List.getD, List.getElem?_eq_getElem hkl]
   cases hx : l.getD k false with
   | true =>
    have HM : Hid (true ∈ l) := by unfold Hid; rw [← hx]; exact List.mem_of_getElem? HE.out
    rw [hx] at hc
    clear hx
    go_wp2
    go_ret
    exact ⟨⟨k, rfl, ⟨fun _ => HM.out, fun _ => by omega⟩, by omega, by omega⟩, rfl⟩
   | false =>
    have HT2 : Hid (true ∉ l.take (k + 1)) := by
     unfold Hid
     rw [List.take_add_one, HE.out]
     intro h
     rcases List.mem_append.1 h with h | h
     ·exact HT.out h
     ·rw [hx] at h
      simp at h
    rw [hx] at hc
    clear hx
    go_wp2
    go_roundw
    case rel => exact ⟨k + 1, by omega, by go_num, trivial, HT2⟩
    case measure => simp [intOf]; omega
  ·have HM : Hid (true ∉ l) := by
    have := HT.out
    rw [List.take_of_length_le (by rw [HN.out]; omega)] at this
    exact this
   go_wp2
   go_ret
   exact ⟨⟨-1, rfl, ⟨fun h => by omega, fun h => absurd h HM.out⟩, by omega, by omega⟩, rfl⟩
theorem containsB_any (ao : Option Addr) (c n : Nat) (l : List Bool) (w : World) (base : Nat) (h : OwnL w base (.slice ao n c) n l) (hll : l.length = n) (hl : n ≤ 10000) :
  Calls Tryz.prog 67 #[.slice ao n c, .bool true] w fun e w' => e = .returned (.bool (decide (true ∈ l))) ∧ w' = w := by
 have HI := hid_of (indexB_any ao c n l w base h hll hl)
 clear h hll
 go_enter Tryz.func67, Tryz.ntmps67
 go_wp2_with fail
 refine HI.out.mono ?_
 rintro e w' ⟨⟨k, rfl, hiff, hk1, hk2⟩, rfl⟩
 have HF := hid_of hiff
 clear hiff HI
 by_cases h0 : 0 ≤ k
 ·have HD : Hid (decide (true ∈ l) = true) := decide_eq_true (HF.out.1 h0)
  go_wp2
  go_ret
  exact ⟨by rw [HD.out]; rfl, rfl⟩
 ·have HD : Hid (decide (true ∈ l) = false) := decide_eq_false (fun h => h0 (HF.out.2 h))
  go_wp2
  go_ret
  refine ⟨?_, rfl⟩
  rw [HD.out]
  show Ending.returned (.bool (decide (0 ≤ k))) = _
  rw [decide_eq_false (show ¬ 0 ≤ k by omega)]
structure Me (κ α : Type) where
 k : κ
 a : α
 born : Nat
structure Cod (κ α : Type) where
 enc : κ → Value
 val : α → Value
variable {κ α : Type} [DecidableEq κ]
def Cod.ent (c : Cod κ α) (e : Me κ α) : MapEntry := { key := c.enc e.k, val := c.val e.a, born := e.born }
structure Cod.Fits (c : Cod κ α) (P : Program) (t : TypeId) (z : Value) : Prop where
 ty : ∃ kt et d, P.underlying t = some (.map kt et) ∧ P.underlying kt = some d ∧ (∀ a b, Instr.sameNow d (c.enc a) (c.enc b) = some (decide (a = b))) ∧ (∀ a b n w, (Instr.checkKey b (n + 1) kt (c.enc a)).run P w = .ok () w) ∧ ∀ w, (zeroValue et).run P w = .ok z w
 bits : ∀ a, Instr.sameBits 10000 (c.enc a) (c.enc a) = true
def lookI (c : Cod κ α) : List (Me κ α) → κ → Nat → Option (Nat × Value)
 | [], _, _ => none
 | e :: es, d, i => if d = e.k then some (i, c.val e.a) else lookI c es d (i + 1)
def look : List (Me κ α) → κ → Option α
 | [], _ => none
 | e :: es, d => if d = e.k then some e.a else look es d
def lays : List (Me κ α) → κ → α → Nat → List (Me κ α)
 | [], d, a, b => [⟨d, a, b⟩]
 | x :: es, d, a, b => if d = x.k then ⟨d, a, x.born⟩ :: es else x :: lays es d a b
theorem gotm {P : Program} {w : World} {r : Nat} {es : Array MapEntry} {c : Nat} (hb : w.heap[r]? = some (.map es c)) : (getObj r).run P w = .ok (.map es c) w := by simp [getObj, Sem.run, hb]
theorem set_gotm {P : Program} {w : World} {r : Nat} {es : Array MapEntry} {c : Nat} (o' : Obj) (hb : w.heap[r]? = some (.map es c)) : (setObj r o').run P w = .ok () { w with heap := w.heap.setIfInBounds r o' } := by simp [setObj, Sem.run, hb]
theorem find_now (c : Cod κ α) (d : TypeDesc) (h : ∀ a b, Instr.sameNow d (c.enc a) (c.enc b) = some (decide (a = b))) (k : κ) : ∀ (es : List (Me κ α)) (i : Nat), Instr.findNow d (c.enc k) (es.map c.ent) i = some (lookI c es k i)
 | [], i => rfl
 | e :: es, i => by
  rw [List.map_cons]
  unfold Instr.findNow
  rw [show (c.ent e).key = c.enc e.k from rfl, h]
  by_cases hk : k = e.k
  ·simp only [hk, decide_true, lookI, if_true]
   rfl
  ·simp only [hk, decide_false, lookI, if_false]
   exact find_now c d h k es (i + 1)
theorem run_find {P : Program} (c : Cod κ α) (kt : TypeId) (d : TypeDesc) (hd : P.underlying kt = some d) (h : ∀ a b, Instr.sameNow d (c.enc a) (c.enc b) = some (decide (a = b))) (k : κ) (es : List (Me κ α)) (w : World) :
  (Instr.findKey kt (c.enc k) (es.map c.ent)).run P w = .ok (lookI c es k 0) w := by
 unfold Instr.findKey
 rw [Sem.run_bind, run_underlying hd, Result.andThen_ok, find_now c d h k es 0]
 rfl
theorem look_some (c : Cod κ α) : ∀ (es : List (Me κ α)) (d : κ) (i : Nat), (lookI c es d i).map (·.2) = (look es d).map c.val
 | [], _, _ => rfl
 | e :: es, d, i => by
  unfold lookI look
  split
  ·rfl
  ·exact look_some c es d (i + 1)
def lookV (c : Cod κ α) (z : Value) (es : List (Me κ α)) (d : κ) : Value := match look es d with | some a => c.val a | none => z
theorem run_look {P : Program} {c : Cod κ α} {t : TypeId} {z : Value} (H : c.Fits P t z) (w : World) (r clock : Nat) (es : List (Me κ α)) (hb : w.heap[r]? = some (.map (es.map c.ent).toArray clock)) (d : κ) (b : Bool) :
  (Instr.lookup t (.map (some r)) (c.enc d) b).run P w = .ok (if b then .tuple #[lookV c z es d, .bool (look es d).isSome] else lookV c z es d) w := by
 obtain ⟨kt, et, td, h1, h2, h3, h4, h5⟩ := H.ty
 unfold Instr.lookup
 simp only [Sem.run_bind, run_underlying h1, Result.andThen_ok, Sem.run_pure, gotm hb, h4 d _ 9999 w]
 rw [run_find c kt td h2 h3 d es w]
 have hl := look_some c es d 0
 unfold lookV
 cases e1 : lookI c es d 0 with
 | none =>
  rw [e1] at hl
  cases e2 : look es d with
  | none => simp only [Result.andThen_ok, Sem.run_bind, h5, Sem.run_pure, Option.isSome_none]
  | some e => rw [e2] at hl; cases hl
 | some p =>
  rw [e1] at hl
  cases e2 : look es d with
  | none => rw [e2] at hl; cases hl
  | some e =>
   rw [e2] at hl
   obtain ⟨i, v⟩ := p
   have hv : v = c.val e := by simpa using hl
   subst hv
   simp only [Result.andThen_ok, Sem.run_bind, Sem.run_pure, Option.isSome_some]
theorem ents_modify (c : Cod κ α) (d : κ) (a : α) (b : Nat) : ∀ (es : List (Me κ α)) (i : Nat) (p : Nat × Value), lookI c es d i = some p → ∃ j, p.1 = i + j ∧ j < es.length ∧ (es.map c.ent).toArray.modify j (fun x => { x with key := c.enc d, val := c.val a }) = ((lays es d a b).map c.ent).toArray ∧ ((es.map c.ent).toArray[j]?).map (·.key) = some (c.enc d)
 | [], i, p, h => by cases h
 | x :: es, i, p, h => by
  unfold lookI at h
  by_cases hk : d = x.k
  ·rw [if_pos hk] at h
   cases h
   refine ⟨0, rfl, by simp, ?_, by simp [Cod.ent, hk]⟩
   rw [lays, if_pos hk]
   apply Array.ext'
   simp [Cod.ent]
  ·rw [if_neg hk] at h
   obtain ⟨j, h1, h2, h3, h4⟩ := ents_modify c d a b es (i + 1) p h
   refine ⟨j + 1, by omega, by simp; omega, ?_, by simpa using h4⟩
   rw [lays, if_neg hk]
   apply Array.ext'
   have := congrArg Array.toList h3
   simp at this ⊢
   exact this
theorem ents_push (c : Cod κ α) (d : κ) (a : α) (b : Nat) : ∀ (es : List (Me κ α)) (i : Nat), lookI c es d i = none → (es.map c.ent).toArray.push { key := c.enc d, val := c.val a, born := b } = ((lays es d a b).map c.ent).toArray
 | [], i, _ => by simp [lays, Cod.ent]
 | x :: es, i, h => by
  unfold lookI at h
  by_cases hk : d = x.k
  ·rw [if_pos hk] at h; cases h
  ·rw [if_neg hk] at h
   have := congrArg Array.toList (ents_push c d a b es (i + 1) h)
   rw [lays, if_neg hk]
   apply Array.ext'
   simp at this ⊢
   exact this
def World.over (w : World) (r : Nat) (o : Obj) : World := { w with heap := w.heap.setIfInBounds r o }
theorem over_same (w : World) (r : Nat) (o : Obj) (h : r < w.heap.size) : (World.over w r o).heap[r]? = some o := by
 simp [World.over, h]
theorem run_lay {P : Program} {c : Cod κ α} {t : TypeId} {z : Value} (H : c.Fits P t z) (w : World) (r clock : Nat) (es : List (Me κ α)) (hb : w.heap[r]? = some (.map (es.map c.ent).toArray clock)) (d : κ) (a : α) :
  ∃ clock', (Instr.mapUpdate t (.map (some r)) (c.enc d) (c.val a)).run P w = .ok () (World.over w r (.map ((lays es d a clock).map c.ent).toArray clock')) := by
 obtain ⟨kt, et, td, h1, h2, h3, h4, h5⟩ := H.ty
 unfold Instr.mapUpdate
 simp only [Sem.run_bind, run_underlying h1, Result.andThen_ok, gotm hb, h4 d _ 9999 w]
 rw [run_find c kt td h2 h3 d es w]
 cases e1 : lookI c es d 0 with
 | none =>
  refine ⟨clock + 1, ?_⟩
  simp only [Result.andThen_ok]
  rw [set_gotm _ hb, ents_push c d a clock es 0 e1]
  rfl
 | some p =>
  obtain ⟨j, i1, i2, i3, i4⟩ := ents_modify c d a clock es 0 p e1
  refine ⟨clock, ?_⟩
  obtain ⟨i, v⟩ := p
  have hi : i = j := by simpa using i1
  subst hi
  simp only [Result.andThen_ok, Sem.run_bind]
  rw [i4]
  unfold Instr.keyThatStays
  simp only [Option.getD_some, H.bits, if_true, Sem.run_pure, Result.andThen_ok]
  rw [set_gotm _ hb, i3]
  rfl
theorem look_lays : ∀ (es : List (Me κ α)) (d : κ) (a : α) (b : Nat) (d' : κ), look (lays es d a b) d' = if d' = d then some a else look es d'
 | [], d, a, b, d' => rfl
 | x :: es, d, a, b, d' => by
  rw [lays]
  by_cases hk : d = x.k
  ·rw [if_pos hk, look, look]
   by_cases h : d' = d
   ·rw [if_pos h, if_pos h]
   ·rw [if_neg h, if_neg h, if_neg (fun e => h (e.trans hk.symm))]
  ·rw [if_neg hk, look, look, look_lays es d a b d']
   by_cases h : d' = x.k
   ·rw [if_pos h, if_pos h, if_neg (fun e => hk (e.symm.trans h))]
   ·rw [if_neg h, if_neg h]
theorem check3 (w : World) (b : Bool) (n : Nat) (x : Int) : (Instr.checkKey b (n + 1) 3 (.int .i64 x)).run Tryz.prog w = .ok () w := by
 unfold Instr.checkKey
 simp [run_underlying Tryz.underlying3, Sem.run_pure]
theorem bits3 (x : Int) : Instr.sameBits 10000 (.int .i64 x) (.int .i64 x) = true := by
 unfold Instr.sameBits
 simp
def cL : Cod Int Value := ⟨.int .i64, fun v => v⟩
theorem fitsL : cL.Fits Tryz.prog 119 (.slice none 0 0) :=
 ⟨⟨3, 30, _, Tryz.underlying119, Tryz.underlying3, fun a b => by
  show (if IntKind.i64 = IntKind.i64 then some (a == b) else none) = _
  rw [if_pos rfl]
  congr 1, fun a b n w => check3 w b n _, fun w => by kernel_rfl⟩, fun a => bits3 _⟩
theorem kept_over (w : World) (r : Nat) (o : Obj) : Kept (fun k => k = r) w (World.over w r o) :=
 ⟨rfl, rfl, rfl, by simp [World.over], fun k _ hn => by
  show (w.heap.setIfInBounds r o)[k]? = _
  rw [Array.getElem?_setIfInBounds, if_neg (fun h => hn h.symm)]⟩
theorem own_map {w : World} {base e s : Nat} {v : Value} {n : Nat} {xs : List Value} (h : w.ownsRow base e s v n xs) {B c : Nat} {es : Array MapEntry} (hb : w.heap[B]? = some (.map es c)) : v.ownBlock ≠ some B := fun hq => by
 rcases h.2 with ⟨rfl, _⟩ | ⟨g, cap, cur, rfl, _, hgg, _⟩
 ·cases hq
 ·simp [Value.ownBlock] at hq
  subst hq
  rw [hb] at hgg
  cases hgg
theorem obj_kept {S : Nat → Prop} {w w' : World} {g : Nat} {o : Obj} (hk : Kept S w w') (h : w.heap[g]? = some o) (hn : ¬ S g) : w'.heap[g]? = some o := by
 rw [hk.block g (by rcases Nat.lt_or_ge g w.heap.size with h1 | h1; exact h1; rw [Array.getElem?_eq_none h1] at h; cases h) hn]
 exact h
theorem Tryz.info30b : (Tryz.prog.info? 30).map (fun i => (i.zero, i.size, i.bytes)) = some (some (.slice none 0 0), 1, 24) := by kernel_rfl
def NewB (W : World) (v v' : Value) : Prop := v'.ownBlock = v.ownBlock ∨ v'.ownBlock = some (W.heap.size + 1)
theorem push_val {w0 W : World} {v : Value} {k : Nat} {xs : List Value} (h : W.ownsRow w0.heap.size 30 1 v k xs) (x : Value) (hone : x.oneCell' = true) (hk : KF w0 W) (hl : k ≤ 90000) :
  ∃ v' w', (Builtin.append_ #[29, 29] 29 #[v, .slice (some ⟨W.heap.size, 0, none⟩) 1 1]).run Tryz.prog (W.alloc (.cells #[x] 30)) = .ok v' w' ∧ w'.ownsRow w0.heap.size 30 1 v' (k + 1) (xs ++ [x]) ∧ KF w0 w' ∧ Kept (fun q => v.ownBlock = some q) W w' ∧ NewB W v v' := by
 obtain ⟨i0, hi, hz0, hz1, hz2⟩ := info_parts Tryz.info30b
 obtain ⟨v', w', hr, h2, h3, h4, _⟩ := append_old (P := Tryz.prog) (W.alloc (.cells #[x] 30)) w0.heap.size 29 29 30 i0 _ 1 24 Tryz.underlying29 hi hz0 hz1 hz2 rfl (by decide) v k xs (h.alloc _) ⟨W.heap.size, 0, none⟩ 1 1 [x] (by simp) (fun j u hj => by
  have hjl := (List.getElem?_eq_some_iff.1 hj).1
  have : j = 0 := by simpa using hjl
  subst this
  rw [Addr.add_lit, cell_block _ _ _ _ _ _ (heap_alloc_new W _)]
  simpa using hj) (fun u hu => by simp at hu; subst hu; exact hone) (by unfold maxLen; omega) (by omega) (by have := hk.size; simp; omega)
 have hk1 : Kept (fun k => v.ownBlock = some k) W w' := ((Kept.refl _ W).alloc _).grown h3 (fun k hk => .inr hk)
 exact ⟨v', w', hr, h2, hk.step hk1 (fun i hi e => by have := (h.lt i e).1; omega), hk1, by simpa [NewB] using h4⟩
theorem push_num2 {w0 W : World} {v : Value} {l : List Int} (h : OwnN W w0.heap.size v l) (x : Int) (hk : KF w0 W) (hl : l.length ≤ 90000) :
  ∃ v' w', (Builtin.append_ #[30, 30] 30 #[v, .slice (some ⟨W.heap.size, 0, none⟩) 1 1]).run Tryz.prog (W.alloc (.cells #[.int .i64 x] 3)) = .ok v' w' ∧ OwnN w' w0.heap.size v' (l ++ [x]) ∧ KF w0 w' ∧ Kept (fun k => v.ownBlock = some k) W w' ∧ NewB W v v' := by
 obtain ⟨v', w', hr, ho, hg, hb⟩ := app_num (W.alloc (.cells #[.int .i64 x] 3)) w0.heap.size v l ⟨W.heap.size, 0, none⟩ 1 1 [x] (h.alloc _) rfl (fun j hj => by
  have : j = 0 := by omega
  subst this
  rw [Addr.add_lit, cell_block _ _ _ _ _ _ (heap_alloc_new W _)]
  rfl) (by omega) (by have := hk.size; simp; omega)
 have hk1 : Kept (fun k => v.ownBlock = some k) W w' := ((Kept.refl _ W).alloc _).grown hg (fun k hk => .inr hk)
 exact ⟨v', w', hr, ho, hk.step hk1 (fun i hi e => by have := (h.lt i e).1; omega), hk1, by simpa [NewB] using hb⟩
structure Fac (w wr : World) (nf gl gF gm gM : Nat) (HV LV : List Value) (bs : List BD) (kh kt kl kn : Nat) (hvv tvv lvv : Value) (es : List (Me Int Value)) (clk : Nat) : Prop where
 box : wr.heap[gF]? = some (.cells #[hvv, tvv, lvv, .slice (some ⟨gl, 0, none⟩) nf nf, .int .i64 0, .int .i64 0] 33 (0, 0))
 hv : wr.ownsRow w.heap.size 30 1 hvv kh (HV.take kh)
 tv : OwnN wr w.heap.size tvv ((bs.map topP).take kt)
 lv : wr.ownsRow w.heap.size 30 1 lvv kl (LV.take kl)
 mp : wr.heap[gm]? = some (.map (es.map cL.ent).toArray clk)
 bm : wr.heap[gM]? = some (.cells #[.map (some gm)] 119 (0, 0))
 li : wr.ownsRow w.heap.size 4 1 (.slice (some ⟨gl, 0, none⟩) nf nf) nf (bools (List.replicate nf false))
 nm : ∀ i, i < kn → ∃ v, look es (i : Int) = some v ∧ OwnN wr w.heap.size v (namedP (bs.getD i bd0)) ∧ (∀ q, tvv.ownBlock = some q → v.ownBlock ≠ some q)
 ap : ∀ q, hvv.ownBlock = some q → lvv.ownBlock ≠ some q
 kept : KF w wr
 lo : w.heap.size ≤ gF ∧ w.heap.size ≤ gm
section
variable {w wr w' : World} {nf gl gF gm gM : Nat} {HV LV : List Value} {bs : List BD} {kh kt kl kn : Nat} {hvv tvv lvv : Value} {es : List (Me Int Value)} {clk : Nat}
theorem Fac.same (h : Fac w wr nf gl gF gm gM HV LV bs kh kt kl kn hvv tvv lvv es clk) (hk : KF wr w') : Fac w w' nf gl gF gm gM HV LV bs kh kt kl kn hvv tvv lvv es clk :=
 ⟨box_kept hk h.box id, hk.ownsRow h.hv (fun _ _ f => f), hk.ownsRow h.tv (fun _ _ f => f), hk.ownsRow h.lv (fun _ _ f => f), obj_kept hk h.mp id, box_kept hk h.bm id, hk.ownsRow h.li (fun _ _ f => f), fun i hi => by
  obtain ⟨v, h1, h2, h3⟩ := h.nm i hi
  exact ⟨v, h1, hk.ownsRow h2 (fun _ _ f => f), h3⟩, h.ap, h.kept.trans hk, h.lo⟩
theorem Fac.stepH (h : Fac w wr nf gl gF gm gM HV LV bs kh kt kl kn hvv tvv lvv es clk) {v' : Value} (ho : w'.ownsRow w.heap.size 30 1 v' (kh + 1) (HV.take (kh + 1))) (hk0 : KF w w') (hk1 : Kept (fun q => hvv.ownBlock = some q) wr w') (hb : NewB wr hvv v') :
  Fac w (w'.setCell ⟨gF, 0, none⟩ v') nf gl gF gm gM HV LV bs (kh + 1) kt kl kn v' tvv lvv es clk := by
 have hbx := box_kept hk1 h.box (fun e => own_box2 h.hv h.box (by decide) e)
 have hks := kept_set w' gF 0 v'
 have hor : ∀ k, k = gF → ¬ hvv.ownBlock = some k → True := fun _ _ _ => trivial
 have htv := hk1.ownsRow h.tv (fun q hq e => own_two h.hv h.tv (by decide) q e hq)
 have hlv := hk1.ownsRow h.lv (fun q hq e => h.ap q e hq)
 have hli := hk1.ownsRow h.li (fun q hq e => own_two h.hv h.li (by decide) q e hq)
 have hmp := obj_kept hk1 h.mp (fun e => own_map h.hv h.mp e)
 have hbm := box_kept hk1 h.bm (fun e => own_box2 h.hv h.bm (by decide) e)
 refine ⟨set_block _ _ 0 _ _ _ hbx v', hks.ownsRow ho (fun q hq e => own_box2 ho hbx (by decide) (by rw [hq, e])), hks.ownsRow htv (fun q hq e => own_box2 htv hbx (by decide) (by rw [hq, e])), hks.ownsRow hlv (fun q hq e => own_box2 hlv hbx (by decide) (by rw [hq, e])), obj_kept hks hmp (fun e => by rw [e, hbx] at hmp; cases hmp), box_kept hks hbm (fun e => by rw [e, hbx] at hbm; cases hbm), hks.ownsRow hli (fun q hq e => own_box2 hli hbx (by decide) (by rw [hq, e])), fun i hi => ?_, fun q hq e => ?_, hk0.setCell (.inl h.lo.1) _, h.lo⟩
 ·obtain ⟨v, h1, h2, h3⟩ := h.nm i hi
  have h4 := hk1.ownsRow h2 (fun q hq e => own_two h.hv h2 (by decide) q e hq)
  exact ⟨v, h1, hks.ownsRow h4 (fun q hq e => own_box2 h4 hbx (by decide) (by rw [hq, e])), h3⟩
 ·rcases hb with hb | hb
  ·exact h.ap q (by rw [← hb]; exact hq) e
  ·rw [hb] at hq
   have := (h.lv.lt q e).2
   simp at hq
   omega
theorem Fac.stepL (h : Fac w wr nf gl gF gm gM HV LV bs kh kt kl kn hvv tvv lvv es clk) {v' : Value} (ho : w'.ownsRow w.heap.size 30 1 v' (kl + 1) (LV.take (kl + 1))) (hk0 : KF w w') (hk1 : Kept (fun q => lvv.ownBlock = some q) wr w') (hb : NewB wr lvv v') :
  Fac w (w'.setCell ⟨gF, 2, none⟩ v') nf gl gF gm gM HV LV bs kh kt (kl + 1) kn hvv tvv v' es clk := by
 have hbx := box_kept hk1 h.box (fun e => own_box2 h.lv h.box (by decide) e)
 have hks := kept_set w' gF 2 v'
 have htv := hk1.ownsRow h.tv (fun q hq e => own_two h.lv h.tv (by decide) q e hq)
 have hhv := hk1.ownsRow h.hv (fun q hq e => h.ap q hq e)
 have hli := hk1.ownsRow h.li (fun q hq e => own_two h.lv h.li (by decide) q e hq)
 have hmp := obj_kept hk1 h.mp (fun e => own_map h.lv h.mp e)
 have hbm := box_kept hk1 h.bm (fun e => own_box2 h.lv h.bm (by decide) e)
 refine ⟨set_block _ _ 2 _ _ _ hbx v', hks.ownsRow hhv (fun q hq e => own_box2 hhv hbx (by decide) (by rw [hq, e])), hks.ownsRow htv (fun q hq e => own_box2 htv hbx (by decide) (by rw [hq, e])), hks.ownsRow ho (fun q hq e => own_box2 ho hbx (by decide) (by rw [hq, e])), obj_kept hks hmp (fun e => by rw [e, hbx] at hmp; cases hmp), box_kept hks hbm (fun e => by rw [e, hbx] at hbm; cases hbm), hks.ownsRow hli (fun q hq e => own_box2 hli hbx (by decide) (by rw [hq, e])), fun i hi => ?_, fun q hq e => ?_, hk0.setCell (.inl h.lo.1) _, h.lo⟩
 ·obtain ⟨v, h1, h2, h3⟩ := h.nm i hi
  have h4 := hk1.ownsRow h2 (fun q hq e => own_two h.lv h2 (by decide) q e hq)
  exact ⟨v, h1, hks.ownsRow h4 (fun q hq e => own_box2 h4 hbx (by decide) (by rw [hq, e])), h3⟩
 ·rcases hb with hb | hb
  ·exact h.ap q hq (by rw [← hb]; exact e)
  ·rw [hb] at e
   have := (h.hv.lt q hq).2
   simp at e
   omega
theorem Fac.stepT (h : Fac w wr nf gl gF gm gM HV LV bs kh kt kl kn hvv tvv lvv es clk) {v' : Value} (ho : OwnN w' w.heap.size v' ((bs.map topP).take (kt + 1))) (hk0 : KF w w') (hk1 : Kept (fun q => tvv.ownBlock = some q) wr w') (hb : NewB wr tvv v') :
  Fac w (w'.setCell ⟨gF, 1, none⟩ v') nf gl gF gm gM HV LV bs kh (kt + 1) kl kn hvv v' lvv es clk := by
 have hbx := box_kept hk1 h.box (fun e => own_box2 h.tv h.box (by decide) e)
 have hks := kept_set w' gF 1 v'
 have hlv := hk1.ownsRow h.lv (fun q hq e => own_two h.tv h.lv (by decide) q e hq)
 have hhv := hk1.ownsRow h.hv (fun q hq e => own_two h.tv h.hv (by decide) q e hq)
 have hli := hk1.ownsRow h.li (fun q hq e => own_two h.tv h.li (by decide) q e hq)
 have hmp := obj_kept hk1 h.mp (fun e => own_map h.tv h.mp e)
 have hbm := box_kept hk1 h.bm (fun e => own_box2 h.tv h.bm (by decide) e)
 refine ⟨set_block _ _ 1 _ _ _ hbx v', hks.ownsRow hhv (fun q hq e => own_box2 hhv hbx (by decide) (by rw [hq, e])), hks.ownsRow ho (fun q hq e => own_box2 ho hbx (by decide) (by rw [hq, e])), hks.ownsRow hlv (fun q hq e => own_box2 hlv hbx (by decide) (by rw [hq, e])), obj_kept hks hmp (fun e => by rw [e, hbx] at hmp; cases hmp), box_kept hks hbm (fun e => by rw [e, hbx] at hbm; cases hbm), hks.ownsRow hli (fun q hq e => own_box2 hli hbx (by decide) (by rw [hq, e])), fun i hi => ?_, h.ap, hk0.setCell (.inl h.lo.1) _, h.lo⟩
 obtain ⟨v, h1, h2, h3⟩ := h.nm i hi
 have h4 := hk1.ownsRow h2 (fun q hq e => h3 q e hq)
 refine ⟨v, h1, hks.ownsRow h4 (fun q hq e => own_box2 h4 hbx (by decide) (by rw [hq, e])), fun q hq e => ?_⟩
 rcases hb with hb | hb
 ·exact h3 q (by rw [← hb]; exact hq) e
 ·rw [hb] at hq
  have := (h2.lt q e).2
  simp at hq
  omega
theorem Fac.stepM (h : Fac w wr nf gl gF gm gM HV LV bs kh kt kl kn hvv tvv lvv es clk) (v : Value) (hv : OwnN wr w.heap.size v (namedP (bs.getD kn bd0))) (hne : ∀ q, tvv.ownBlock = some q → v.ownBlock ≠ some q) (clk' : Nat) :
  Fac w (World.over wr gm (.map ((lays es (kn : Int) v clk).map cL.ent).toArray clk')) nf gl gF gm gM HV LV bs kh kt kl (kn + 1) hvv tvv lvv (lays es (kn : Int) v clk) clk' := by
 have hks := kept_over wr gm (.map ((lays es (kn : Int) v clk).map cL.ent).toArray clk')
 have hlt : gm < wr.heap.size := by
  rcases Nat.lt_or_ge gm wr.heap.size with h1 | h1
  ·exact h1
  ·have := h.mp
   rw [Array.getElem?_eq_none h1] at this
   cases this
 refine ⟨box_kept hks h.box (fun e => by have := h.mp; rw [← e, h.box] at this; cases this), hks.ownsRow h.hv (fun q hq e => own_map h.hv h.mp (by rw [hq, e])), hks.ownsRow h.tv (fun q hq e => own_map h.tv h.mp (by rw [hq, e])), hks.ownsRow h.lv (fun q hq e => own_map h.lv h.mp (by rw [hq, e])), over_same _ _ _ hlt, box_kept hks h.bm (fun e => by have := h.mp; rw [← e, h.bm] at this; cases this), hks.ownsRow h.li (fun q hq e => own_map h.li h.mp (by rw [hq, e])), fun i hi => ?_, h.ap, h.kept.step hks (fun i hi e => by have := h.lo.2; omega), h.lo⟩
 rw [look_lays]
 by_cases hik : (i : Int) = kn
 ·rw [if_pos hik]
  have : i = kn := by omega
  subst this
  exact ⟨v, rfl, hks.ownsRow hv (fun q hq e => own_map hv h.mp (by rw [hq, e])), hne⟩
 ·rw [if_neg hik]
  obtain ⟨u, h1, h2, h3⟩ := h.nm i (by omega)
  exact ⟨u, h1, hks.ownsRow h2 (fun q hq e => own_map h2 h.mp (by rw [hq, e])), h3⟩
end
end Go.Proofs.YtcaadgcfceommaaGreat

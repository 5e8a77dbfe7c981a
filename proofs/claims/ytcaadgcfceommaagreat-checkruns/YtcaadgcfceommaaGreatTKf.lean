import Derived.Test.YtcaadgcfceommaaGreatTKa
namespace Go.Proofs.YtcaadgcfceommaaGreat
open Go.RowKit
set_option linter.unusedVariables false
set_option linter.unusedSimpArgs false
set_option maxRecDepth 100000
structure ST where
 op : Int
 a : Int
 tk : Int
 gv : Int
 nx : List Int
def ST.cells (s : ST) (nv : Value) : List Value := [.int .i64 s.op, .int .i64 s.a, .int .i64 s.tk, .int .i64 s.gv, nv]
def stepAt (p : PG) (f : FN) (i : Nat) (x : IN) : ST := ⟨x.op, x.a, (tkgv p f x).1, (tkgv p f x).2, wayL x i⟩
def stepsL (p : PG) (f : FN) : List ST := f.code.mapIdx (stepAt p f)
def RowS (w : World) (base g : Nat) (ss : List ST) : Prop := ∀ i s, ss[i]? = some s → ∃ nv, w.rangeAt g (i * 5) (s.cells nv) ∧ OwnN w base nv s.nx
theorem RowS.kept {S : Nat → Prop} {w w' : World} {base g : Nat} {ss : List ST} (h : RowS w base g ss) (hk : Kept S w w') (hg : ¬ S g) (hS : ∀ q, base ≤ q → ¬ S q) : RowS w' base g ss := fun i s hs => by
 obtain ⟨nv, h1, h2⟩ := h i s hs
 exact ⟨nv, range_kept h1 hk hg, hk.ownsRow h2 (fun q hq => hS q (h2.lt q hq).1)⟩
theorem RowS.same {w w' : World} {base g : Nat} {ss : List ST} (h : RowS w base g ss) (hk : KF w w') : RowS w' base g ss := h.kept hk id (fun _ _ f => f)
theorem set5 (w : World) (g o : Nat) (t : TypeId) (cur : Array Value) (v0 v1 v2 v3 v4 : Value) (h : w.heap[g]? = some (.cells cur t (0, 0))) (ho : o + 5 ≤ cur.size) :
  (∃ cur', (((((w.setCell ⟨g, o, none⟩ v0).setCell ⟨g, o + 1, none⟩ v1).setCell ⟨g, o + 2, none⟩ v2).setCell ⟨g, o + 3, none⟩ v3).setCell ⟨g, o + 4, none⟩ v4).heap[g]? = some (.cells cur' t (0, 0)) ∧ cur'.size = cur.size ∧ (∀ j, j < o ∨ o + 5 ≤ j → cur'[j]? = cur[j]?) ∧ cur'[o]? = some v0 ∧ cur'[o + 1]? = some v1 ∧ cur'[o + 2]? = some v2 ∧ cur'[o + 3]? = some v3 ∧ cur'[o + 4]? = some v4) ∧ Kept (fun k => k = g) w (((((w.setCell ⟨g, o, none⟩ v0).setCell ⟨g, o + 1, none⟩ v1).setCell ⟨g, o + 2, none⟩ v2).setCell ⟨g, o + 3, none⟩ v3).setCell ⟨g, o + 4, none⟩ v4) := by
 have h1 := set_block _ _ o _ _ _ h v0
 have h2 := set_block _ _ (o + 1) _ _ _ h1 v1
 have h3 := set_block _ _ (o + 2) _ _ _ h2 v2
 have h4 := set_block _ _ (o + 3) _ _ _ h3 v3
 have h5 := set_block _ _ (o + 4) _ _ _ h4 v4
 refine ⟨⟨_, h5, by simp, fun j hj => ?_, ?_, ?_, ?_, ?_, ?_⟩, ((((kept_set w g o v0).trans (kept_set _ g (o + 1) v1)).trans (kept_set _ g (o + 2) v2)).trans (kept_set _ g (o + 3) v3)).trans (kept_set _ g (o + 4) v4)⟩
 ·simp only [Array.getElem?_setIfInBounds]
  rw [if_neg (by omega), if_neg (by omega), if_neg (by omega), if_neg (by omega), if_neg (by omega)]
 all_goals
  simp only [Array.getElem?_setIfInBounds, Array.size_setIfInBounds]
  simp
  try omega
structure StK (w wr : World) (gs n : Nat) (p : PG) (f : FN) (k : Nat) : Prop where
 row : ∃ cur, wr.heap[gs]? = some (.cells cur 115 (0, 0)) ∧ cur.size = n * 5
 at' : ∀ i x, i < k → f.code[i]? = some x → ∃ nv, wr.rangeAt gs (i * 5) ((stepAt p f i x).cells nv) ∧ OwnN wr w.heap.size nv (wayL x i)
 kept : KF w wr
 base : w.heap.size ≤ gs
theorem StK.same {w wr w' : World} {gs n : Nat} {p : PG} {f : FN} {k : Nat} (h : StK w wr gs n p f k) (hk : KF wr w') : StK w w' gs n p f k :=
 ⟨by obtain ⟨c, h1, h2⟩ := h.row; exact ⟨c, box_kept hk h1 id, h2⟩, fun i x hi hx => by
  obtain ⟨nv, h1, h2⟩ := h.at' i x hi hx
  exact ⟨nv, range_kept h1 hk id, hk.ownsRow h2 (fun _ _ f => f)⟩, h.kept.trans hk, h.base⟩
theorem StK.next {w wr : World} {gs n : Nat} {p : PG} {f : FN} {k : Nat} (h : StK w wr gs n p f k) (hk : k < n) (x : IN) (hx : f.code[k]? = some x) (nv : Value) (hn : OwnN wr w.heap.size nv (wayL x k)) (t g : Int) (ht : (tkgv p f x).1 = t) (hg : (tkgv p f x).2 = g) (W : World)
  (hW : W = (((((wr.setCell ⟨gs, k * 5, none⟩ (.int .i64 x.op)).setCell ⟨gs, k * 5 + 1, none⟩ (.int .i64 x.a)).setCell ⟨gs, k * 5 + 2, none⟩ (.int .i64 t)).setCell ⟨gs, k * 5 + 3, none⟩ (.int .i64 g)).setCell ⟨gs, k * 5 + 4, none⟩ nv)) :
  StK w W gs n p f (k + 1) ∧ Kept (fun q => q = gs) wr W := by
 obtain ⟨cur, hc, hcs⟩ := h.row
 obtain ⟨⟨cur', h1, h2, h3, a0, a1, a2, a3, a4⟩, hkk⟩ := set5 wr gs (k * 5) 115 cur (.int .i64 x.op) (.int .i64 x.a) (.int .i64 t) (.int .i64 g) nv hc (by omega)
 rw [← hW] at h1 hkk
 have hne : ∀ {v : Value} {l : List Int}, OwnN wr w.heap.size v l → OwnN W w.heap.size v l := fun ho => hkk.ownsRow ho (fun q hq e => by
  subst e
  rcases ho.2 with ⟨rfl, _⟩ | ⟨g', cap, c2, rfl, _, hgg, _⟩
  ·cases hq
  ·simp [Value.ownBlock] at hq
   subst hq
   rw [hc] at hgg
   cases hgg)
 refine ⟨⟨⟨cur', h1, by omega⟩, fun i y hi hy => ?_, h.kept.step hkk (fun i hi e => by have := h.base; omega), h.base⟩, hkk⟩
 by_cases hik : i < k
 ·obtain ⟨u, hu1, hu2⟩ := h.at' i y hik hy
  refine ⟨u, fun j v hj => ?_, hne hu2⟩
  have hj5 : j < 5 := by
   have := (List.getElem?_eq_some_iff.1 hj).1
   simpa [ST.cells] using this
  have := hu1 j v hj
  rw [cell_block _ _ _ _ _ _ hc] at this
  rw [cell_block _ _ _ _ _ _ h1, h3 _ (by omega)]
  exact this
 ·have e : i = k := by omega
  subst e
  rw [hx] at hy
  cases hy
  refine ⟨nv, fun j v hj => ?_, hne hn⟩
  rw [cell_block _ _ _ _ _ _ h1]
  simp only [ST.cells, stepAt, ht, hg] at hj
  match j, hj with
  | 0, hj => simp at hj; subst hj; exact a0
  | 1, hj => simp at hj; subst hj; exact a1
  | 2, hj => simp at hj; subst hj; exact a2
  | 3, hj => simp at hj; subst hj; exact a3
  | 4, hj => simp at hj; subst hj; exact a4
  | j + 5, hj => simp at hj
theorem StK.cells {w wr : World} {gs n : Nat} {p : PG} {f : FN} {k : Nat} (h : StK w wr gs n p f k) (j : Nat) (hj : j < n * 5) : (∃ u, wr.cell? ⟨gs, j, none⟩ = some u) ∧ wr.frozen? ⟨gs, j, none⟩ = false := by
 obtain ⟨cur, hc, hcs⟩ := h.row
 refine ⟨?_, frozen_block _ _ _ _ _ hc⟩
 rw [cell_block _ _ _ _ _ _ hc]
 exact ⟨_, Array.getElem?_eq_getElem (by omega)⟩
theorem Tryz.info115 : (Tryz.prog.info? 115).map (fun i => (i.zero, i.size, i.bytes)) = some (some (.agg #[.int .i64 0, .int .i64 0, .int .i64 0, .int .i64 0, .slice none 0 0]), 5, 56) := by kernel_rfl
def zst (n : Nat) : Array Value := madeCells (Value.agg #[.int .i64 0, .int .i64 0, .int .i64 0, .int .i64 0, .slice none 0 0]).cells n
theorem makeSt (W : World) (l : Nat) (h : l * 56 ≤ 140737488355328) : (Instr.makeSlice 75 (.int .i64 (l : Int)) (.int .i64 (l : Int))).run Tryz.prog W = .ok (.slice (some ⟨W.heap.size, 0, none⟩) l l) (W.alloc (.cells (zst (l * 5)) 115)) := by
 obtain ⟨i0, hi, hz0, hz1, hz2⟩ := info_parts Tryz.info115
 have := run_make (P := Tryz.prog) W 75 115 i0 _ Tryz.underlying75 hi hz0 .i64 .i64 (l : Int) (l : Int) (by omega) (by omega) (by rw [hz2]; omega) (by omega)
 simpa [zst, hz1] using this
theorem zst_size (n : Nat) : (zst n).size = n := size_madeCells _ n
def StepsR (p : PG) (f : FN) (w : World) (e : Ending) (w' : World) : Prop := ∃ g, e = .returned (.slice (some ⟨g, 0, none⟩) f.code.length f.code.length) ∧ w.heap.size ≤ g ∧ g < w'.heap.size ∧ RowS w' w.heap.size g (stepsL p f) ∧ KF w w'
set_option maxHeartbeats 8000000 in
theorem steps_any (v : Value) (p : PG) (f : FN) (cao : Option Addr) (cc : Nat) (w : World) (B : Nat) (h : PgIs w B v p) (hri : RowI w (.slice cao f.code.length cc) f.code) (hok : ∀ y ∈ f.code, y.Ok) (hl : f.code.length ≤ 4096) :
  Calls Tryz.prog 60 #[v, .agg #[.int .i64 f.a, .int .i64 f.l, .int .i64 f.r, .slice cao f.code.length cc]] w (StepsR p f w) := by
 have HTA : Hid (∀ (x : IN) (W : World), KF w W → x.Ok → Calls Tryz.prog 53 #[v, .agg #[.int .i64 f.a, .int .i64 f.l, .int .i64 f.r, .slice cao f.code.length cc], .agg #[.int .i64 x.op, .int .i64 x.a]] W (TkR p f x W)) := fun x W hW hx => takes_any v p f x cao cc W B (h.kept hW (fun _ _ f => f)) hx
 obtain ⟨dv, fv, rfl, hd, hdl, hf⟩ := h
 obtain ⟨dao, dc, rfl⟩ := hd.shape
 obtain ⟨fao, fc, rfl⟩ := hf.shape
 unfold StepsR
 obtain ⟨nf, hnf⟩ := nmd (p.fns.length)
 obtain ⟨nd, hnd⟩ := nmd (p.data.length)
 obtain ⟨mem, hmem⟩ := nmd (p.mem)
 obtain ⟨nc, hnc⟩ := nmd (f.code.length)
 obtain ⟨fa, hfa⟩ := nmd (f.a)
 obtain ⟨fl, hfl⟩ := nmd (f.l)
 obtain ⟨fr, hfr⟩ := nmd (f.r)
 rw [← hnf, ← hnd, ← hmem, ← hnc, ← hfa, ← hfl, ← hfr] at HTA
 rw [← hnf, ← hnd, ← hmem, ← hnc, ← hfa, ← hfl, ← hfr]
 rw [← hnc] at hl hri
 have HNC := hid_of hnc
 have HRI := hid_of hri
 have HOK := hid_of hok
 obtain ⟨W, hW⟩ := nmd ((w.alloc (.cells #[.int .i64 mem, .slice dao nd dc, .slice fao nf fc] 25)).alloc (.cells #[.int .i64 fa, .int .i64 fl, .int .i64 fr, .slice cao nc cc] 56))
 obtain ⟨hkW, hb1, hb2⟩ := allocs2 _ _ _ _ _ _ hW
 have y3 := cell_block _ _ 3 _ _ _ hb2
 have hmk := makeSt W nc (by omega)
 have hkM : KF W (W.alloc (.cells (zst (nc * 5)) 115)) := (Kept.refl _ _).alloc _
 have HS0 : Hid (StK w (W.alloc (.cells (zst (nc * 5)) 115)) W.heap.size nc p f 0) := ⟨⟨_, heap_alloc_new W _, zst_size _⟩, fun i x hi => absurd hi (by omega), hkW.trans hkM, hkW.size⟩
 have HB1 := hid_of (box_kept hkM hb1 id)
 have HB2 := hid_of (box_kept hkM hb2 id)
 have y3' := cell_block _ _ 3 _ _ _ HB2.out
 clear hkW hb1 hb2 hd hdl hf hnf hnd hmem hnc hfa hfl hfr hri hok hkM
 go_enter Tryz.func60, Tryz.ntmps60
 go_upto_region 1 with fail
 rw [← hW]
 clear hW
 go_wp2
 clear hmk y3
 generalize W.alloc (.cells (zst (nc * 5)) 115) = w0 at *
 generalize W.heap.size = gs at *
 clear y3'
 have HNE : Hid (gs ≠ w.heap.size ∧ gs ≠ w.heap.size + 1) := by
  obtain ⟨cur, hc, _⟩ := HS0.out.row
  refine ⟨fun e => ?_, fun e => ?_⟩
  ·rw [e, HB1.out] at hc; cases hc
  ·rw [e, HB2.out] at hc; cases hc
 have HK0 := hid_of (Kept.refl (fun q => q = gs) w0)
 go_loopw [17] (fun iv wr => ∃ k : Nat, k ≤ nc ∧ iv = .int .i64 (k : Int) ∧ Hid (StK w wr gs nc p f k) ∧ Hid (Kept (fun q => q = gs) w0 wr)) (fun iv _ => nc - (intOf iv).toNat)
 case atStart => exact ⟨0, by omega, rfl, HS0, HK0⟩
 case round =>
  obtain ⟨k, hk, rfl, HST0, HKR⟩ := hrel
  clear HS0 HK0
  by_cases hlt : k < nc
  ·have hltI : (k : Int) < (nc : Int) := by omega
   obtain ⟨gi, oi, x, hxo, hxi, hxr⟩ := rowI_at (HRI.out.kept HST0.out.kept (fun _ _ f => f)) (i := k) (by rw [← HNC.out]; exact hlt)
   subst hxo
   obtain ⟨op, a⟩ := x
   have i0 : wr.cell? ⟨gi, oi + k * 2, none⟩ = some (.int .i64 op) := hxr 0 _ rfl
   have i1 : wr.cell? ⟨gi, oi + k * 2 + 1, none⟩ = some (.int .i64 a) := hxr 1 _ rfl
   have HXI := hid_of hxi
   have hb1 := box_kept HKR.out HB1.out (fun e => HNE.out.1 e.symm)
   have hb2 := box_kept HKR.out HB2.out (fun e => HNE.out.2 e.symm)
   have hkI : KF wr (wr.alloc (.cells #[.int .i64 op, .int .i64 a] 64)) := (Kept.refl _ _).alloc _
   have hbI := heap_alloc_new wr (.cells #[.int .i64 op, .int .i64 a] 64)
   have b1 := box_kept hkI hb1 id
   have b2 := box_kept hkI hb2 id
   have z0 := cell_block _ _ 0 _ _ _ b1
   have z1 := cell_block _ _ 1 _ _ _ b1
   have z2 := cell_block _ _ 2 _ _ _ b1
   have y0 := cell_block _ _ 0 _ _ _ b2
   have y1 := cell_block _ _ 1 _ _ _ b2
   have y2 := cell_block _ _ 2 _ _ _ b2
   have y3 := cell_block _ _ 3 _ _ _ b2
   have q0 := cell_block _ _ 0 _ _ _ hbI
   have q1 := cell_block _ _ 1 _ _ _ hbI
   have hTK := HTA.out ⟨op, a⟩ _ (HST0.out.kept.trans hkI) (HOK.out _ (List.mem_of_getElem? hxi))
   have HTK0 := hid_of hTK
   have HSTI := hid_of (HST0.out.same hkI)
   have HKRI : Hid (Kept (fun q => q = gs) w0 (wr.alloc (.cells #[.int .i64 op, .int .i64 a] 64))) := HKR.out.alloc _
   have HBI := hid_of hbI
   have HLT : Hid (gs < wr.heap.size) := by obtain ⟨cur, hc, _⟩ := HST0.out.row; exact (Array.getElem?_eq_some_iff.1 hc).1
   clear hb1 hb2 b1 b2 hxr hkI hbI hxi hTK
   go_wp2_with fail
   generalize wr.alloc (.cells #[.int .i64 op, .int .i64 a] 64) = w2 at *
   refine HTK0.out.mono ?_
   rintro e w3 ⟨rfl, hk3⟩
   have HST := hid_of (HSTI.out.same hk3)
   have HKR3 : Hid (Kept (fun q => q = gs) w0 w3) := HKRI.out.trans (hk3.mono (fun _ _ f => f.elim))
   have HB3 := hid_of (box_kept hk3 HBI.out id)
   clear hk3 z0 z1 z2 y0 y1 y2 y3 q0 q1 i0 i1 HTK0 HSTI HKRI HBI HST0 HKR
   obtain ⟨tk, htk⟩ : ∃ t, (tkgv p f ⟨op, a⟩).1 = t := ⟨_, rfl⟩
   obtain ⟨gv, hgv⟩ : ∃ t, (tkgv p f ⟨op, a⟩).2 = t := ⟨_, rfl⟩
   rw [htk, hgv]
   have HTK := hid_of htk
   have HGV := hid_of hgv
   generalize wr.heap.size = gx at *
   have HSM : Hid (∀ w', Kept (fun k => k = gs) w3 w' → w'.cell? ⟨gx, 0, none⟩ = some (.int .i64 op) ∧ w'.cell? ⟨gx, 1, none⟩ = some (.int .i64 a)) := fun w' hw =>
    ⟨hw.cell (cell_block _ _ 0 _ _ _ HB3.out) (fun e => by have := HLT.out; simp at e; omega), hw.cell (cell_block _ _ 1 _ _ _ HB3.out) (fun e => by have := HLT.out; simp at e; omega)⟩
   clear htk hgv
   go_upto_region 6 with fail
   refine wp_region_held_drew (S := fun w' => Kept (fun k => k = gs) w3 w') (by kernel_rfl) ((Kept.refl _ _).drew) (fun hHeld => ?_)
   iterate 7
    refine tkn (v := ?_) 0 rfl ?_ ?_; rotate_left 1
    ·intro w hSw; obtain ⟨s1, s2⟩ := HSM.out w hSw; go_simp; try with_reducible rfl
    try simp only [Act.put, tdy]
   refine rdy 7 rfl (fun K hK => ?_)
   go_simp
   refine (goes_any ⟨op, a⟩ (k : Int) _ (by omega) (by omega)).mono ?_
   rintro e w4 ⟨nv, rfl, hown, hk4⟩
   have HK4 : Hid (KF w3 w4) := (Kept.refl _ _).drew.trans hk4
   have HS4 := hid_of (HST.out.same HK4.out)
   have HOW : Hid (OwnN w4 w.heap.size nv (wayL ⟨op, a⟩ (k : Int))) := own_mono hown (by have := HST.out.kept.size; exact this)
   clear hown hk4
   obtain ⟨ao4, c4, hnv⟩ := ownsRow_shape HOW.out
   generalize (wayL ⟨op, a⟩ (k : Int)).length = ln at hnv
   subst hnv
   refine hK.out _ _ (HK4.out.mono (fun _ _ f => f.elim)) (fun hHeld => ?_)
   clear hK K
   try simp only [Act.put, tdy]
   iterate 2
    refine tkn (v := ?_) 0 rfl ?_ ?_; rotate_left 1
    ·intro w hSw; go_simp; try with_reducible rfl
    try simp only [Act.put, tdy]
   obtain ⟨⟨u0, c0⟩, f0⟩ := HS4.out.cells (k * 5) (by omega)
   obtain ⟨⟨u1, c1⟩, f1⟩ := HS4.out.cells (k * 5 + 1) (by omega)
   obtain ⟨⟨u2, c2⟩, f2⟩ := HS4.out.cells (k * 5 + 2) (by omega)
   obtain ⟨⟨u3, c3⟩, f3⟩ := HS4.out.cells (k * 5 + 3) (by omega)
   obtain ⟨⟨u4, c4'⟩, f4⟩ := HS4.out.cells (k * 5 + 4) (by omega)
   obtain ⟨hN, hKN⟩ := HS4.out.next hlt ⟨op, a⟩ HXI.out _ HOW.out tk gv HTK.out HGV.out _ rfl
   have HN := hid_of hN
   have HKN : Hid (Kept (fun q => q = gs) w3 _) := (HK4.out.mono (T := fun q => q = gs) (fun _ _ f => f.elim)).trans hKN
   clear hN hKN
   refine rdy 10 rfl (fun K hK => ?_)
   go_simp
   refine hK.out _ _ HKN.out (fun hHeld => ?_)
   clear hK K
   try simp only [Act.put, tdy]
   refine wpAnyH_done (by kernel_rfl) ?_ _
   have HKF := hid_of (HKR3.out.trans HKN.out)
   clear c0 c1 c2 c3 c4' f0 f1 f2 f3 f4 hHeld
   go_wp2
   go_roundw
   case rel => exact ⟨k + 1, by omega, by go_num, HN, HKF⟩
   case measure => simp [intOf]; omega
  ·have e : k = nc := by omega
   subst e
   have HR : Hid (RowS wr w.heap.size gs (stepsL p f)) := fun i s hs => by
    unfold stepsL at hs
    rw [List.getElem?_mapIdx] at hs
    cases hx : f.code[i]? with
    | none => rw [hx] at hs; cases hs
    | some x =>
     rw [hx] at hs
     cases hs
     exact HST0.out.at' i x (by rw [HNC.out]; exact (List.getElem?_eq_some_iff.1 hx).1) hx
   have HK := hid_of HST0.out.kept
   have HG := hid_of HST0.out.base
   have HL : Hid (gs < wr.heap.size) := by obtain ⟨cur, hc, _⟩ := HST0.out.row; exact (Array.getElem?_eq_some_iff.1 hc).1
   clear HST0 HKR
   go_wp2
   go_ret
   exact ⟨gs, rfl, HG.out, HL.out, HR.out, HK.out⟩
structure Wq (w : World) (base a g c : Nat) (l : List Int) : Prop where
 box : w.heap[a]? = some (.cells #[.slice (some ⟨g, 0, none⟩) l.length c] 145 (0, 0))
 row : OwnN w base (.slice (some ⟨g, 0, none⟩) l.length c) l
 low : base ≤ a
theorem Wq.ne {w : World} {base a g c : Nat} {l : List Int} (h : Wq w base a g c l) : g ≠ a := by
 rcases h.row.2 with ⟨e, _⟩ | ⟨g', cap, cur, e, _, hgg, _⟩
 ·cases e
 ·cases e
  intro e
  subst e
  rw [h.box] at hgg
  cases hgg
theorem Wq.at {w : World} {base a g c : Nat} {l : List Int} (h : Wq w base a g c l) (i : Nat) (hi : i < l.length) : w.cell? ⟨g, i, none⟩ = some (.int .i64 (l.getD i 0)) := by
 have := h.row.cells rfl i (.int .i64 (l.getD i 0)) (by simp [ints, List.getD, List.getElem?_eq_getElem hi])
 rwa [Addr.add_lit, Nat.zero_add] at this
theorem ilen (ao : Option Addr) (n c : Nat) (w : World) : Calls Tryz.prog 83 #[.slice ao n c] w fun e w' => e = .returned (.int .i64 (n : Int)) ∧ w' = w := by
 go_enter Tryz.func83, Tryz.ntmps83
 go_wp2
 go_ret
 exact ⟨rfl, rfl⟩
theorem iless {w : World} {base a g c : Nat} {l : List Int} (h : Wq w base a g c l) (i j : Nat) (hi : i < l.length) (hj : j < l.length) :
  Calls Tryz.prog 162 #[.slice (some ⟨g, 0, none⟩) l.length c, .int .i64 (i : Int), .int .i64 (j : Int)] w fun e w' => e = .returned (.bool (decide (l.getD i 0 < l.getD j 0))) ∧ ∃ n, w' = w.drewN n := by
 have c1 := h.at i hi
 have c2 := h.at j hj
 have h1 : (i : Int) < (l.length : Int) := by omega
 have h2 : (j : Int) < (l.length : Int) := by omega
 clear h hi hj
 generalize l.getD i 0 = x at *
 generalize l.getD j 0 = y at *
 generalize l.length = n at *
 go_enter Tryz.func162, Tryz.ntmps162
 go_wp2
 go_quiet (fail)
 go_wp2
 go_ret
 exact ⟨rfl, _, rfl⟩
def swp (l : List Int) (i j : Nat) : List Int := (l.set i (l.getD j 0)).set j (l.getD i 0)
def upL : Nat → List Int → Nat → List Int
 | 0, l, _ => l
 | f + 1, l, j => if (j - 1) / 2 = j ∨ ¬ (l.getD j 0 < l.getD ((j - 1) / 2) 0) then l else upL f (swp l ((j - 1) / 2) j) ((j - 1) / 2)
def lesser (l : List Int) (j n : Nat) : Nat := if j + 1 < n ∧ l.getD (j + 1) 0 < l.getD j 0 then j + 1 else j
def downL : Nat → List Int → Nat → Nat → List Int
 | 0, l, _, _ => l
 | f + 1, l, i, n => if n ≤ 2 * i + 1 then l else if ¬ (l.getD (lesser l (2 * i + 1) n) 0 < l.getD i 0) then l else downL f (swp l i (lesser l (2 * i + 1) n)) (lesser l (2 * i + 1) n) n
theorem swp_len (l : List Int) (i j : Nat) : (swp l i j).length = l.length := by simp [swp]
theorem m_push (w : World) (a : Nat) : (method 330 142 (.pointer (some ⟨a, 0, none⟩)) "Push").run Tryz.prog w = .ok (164, .pointer (some ⟨a, 0, none⟩)) w := by kernel_rfl
theorem m_pop (w : World) (a : Nat) : (method 330 142 (.pointer (some ⟨a, 0, none⟩)) "Pop").run Tryz.prog w = .ok (163, .pointer (some ⟨a, 0, none⟩)) w := by kernel_rfl
theorem follow_w (w : World) (a : Nat) : (follow [⟨145, 0, true⟩] 142 (.val (.pointer (some ⟨a, 0, none⟩)))).run Tryz.prog w = .ok (143, .var ⟨a, 0, none⟩) w := by kernel_rfl
theorem recv_w (w : World) (a : Nat) : (receiverAt 143 (.var ⟨a, 0, none⟩) false none).run Tryz.prog w = (loadVar 143 ⟨a, 0, none⟩).run Tryz.prog w := by kernel_rfl
theorem load143 (w : World) (a : Nat) (v : Value) (h : w.cell? ⟨a, 0, none⟩ = some v) : (loadVar 143 ⟨a, 0, none⟩).run Tryz.prog w = .ok v w := by
 simp [loadVar, go_sem, h]
theorem m_via (nm : String) (sig f : Nat) (hm : (Tryz.prog.info? 142).map (fun i => i.methods.find? (fun x => x.name == nm)) = some (some ⟨nm, sig, #[⟨145, 0, true⟩], some (f, false)⟩)) (w : World) (a : Nat) (v : Value) (h : w.cell? ⟨a, 0, none⟩ = some v) : (method 330 142 (.pointer (some ⟨a, 0, none⟩)) nm).run Tryz.prog w = .ok (f, v) w := by
 cases hi : Tryz.prog.info? 142 with
 | none => rw [hi] at hm; cases hm
 | some i =>
  rw [hi] at hm
  have hm' : i.methods.find? (fun x => x.name == nm) = some ⟨nm, sig, #[⟨145, 0, true⟩], some (f, false)⟩ := by simpa using hm
  unfold method
  simp [typeInfo, hi, hm', follow_w, recv_w, load143 w a v h]
theorem m_len (w : World) (a : Nat) (v : Value) (h : w.cell? ⟨a, 0, none⟩ = some v) : (method 330 142 (.pointer (some ⟨a, 0, none⟩)) "Len").run Tryz.prog w = .ok (83, v) w := m_via _ 120 83 (by kernel_rfl) w a v h
theorem m_less (w : World) (a : Nat) (v : Value) (h : w.cell? ⟨a, 0, none⟩ = some v) : (method 330 142 (.pointer (some ⟨a, 0, none⟩)) "Less").run Tryz.prog w = .ok (162, v) w := m_via _ 96 162 (by kernel_rfl) w a v h
theorem m_swap (w : World) (a : Nat) (v : Value) (h : w.cell? ⟨a, 0, none⟩ = some v) : (method 330 142 (.pointer (some ⟨a, 0, none⟩)) "Swap").run Tryz.prog w = .ok (166, v) w := m_via _ 171 166 (by kernel_rfl) w a v h
theorem Wq.set {w : World} {base a g c : Nat} {l : List Int} (h : Wq w base a g c l) (i : Nat) (x : Int) : Wq (w.setCell ⟨g, i, none⟩ (.int .i64 x)) base a g c (l.set i x) := by
 have hk := kept_set w g i (.int .i64 x)
 have hl : (l.set i x).length = l.length := by simp
 refine ⟨by rw [hl]; exact box_kept hk h.box (fun e => h.ne e.symm), ?_, h.low⟩
 have := (World.ownsRow.stored h.row i (.int .i64 x)).1
 unfold OwnN
 rw [hl]
 rw [show ints (l.set i x) = (ints l).set i (.int .i64 x) by simp [ints, List.map_set]]
 exact this
theorem Wq.same {w w' : World} {base a g c : Nat} {l : List Int} (h : Wq w base a g c l) (hk : KF w w') : Wq w' base a g c l := ⟨box_kept hk h.box id, hk.ownsRow h.row (fun _ _ f => f), h.low⟩
theorem Wq.cell {w : World} {base a g c : Nat} {l : List Int} (h : Wq w base a g c l) (i : Nat) (hi : i < l.length) : (∃ u, w.cell? ⟨g, i, none⟩ = some u) ∧ w.frozen? ⟨g, i, none⟩ = false := ⟨⟨_, h.at i hi⟩, World.ownsRow.frozenAt h.row _⟩
set_option maxHeartbeats 4000000 in
theorem iswap {w : World} {base a g c : Nat} {l : List Int} (h : Wq w base a g c l) (i j : Nat) (hi : i < l.length) (hj : j < l.length) :
  Calls Tryz.prog 166 #[.slice (some ⟨g, 0, none⟩) l.length c, .int .i64 (i : Int), .int .i64 (j : Int)] w fun e w' => e = .returned (.tuple #[]) ∧ Wq w' base a g c (swp l i j) ∧ Kept (fun k => k = g) w w' := by
 have hd : Wq w.drew base a g c l := h.same (Kept.refl _ _).drew
 have h1 := hd.set i (l.getD j 0)
 have HW2 : Hid (Wq ((w.drew.setCell ⟨g, i, none⟩ (.int .i64 (l.getD j 0))).setCell ⟨g, j, none⟩ (.int .i64 (l.getD i 0))) base a g c (swp l i j)) := h1.set j (l.getD i 0)
 have HC1 := hid_of (h1.cell j (by simpa using hj))
 have c1 : w.drew.cell? ⟨g, i, none⟩ = some (.int .i64 (l.getD i 0)) := hd.at i hi
 have c2 : w.drew.cell? ⟨g, j, none⟩ = some (.int .i64 (l.getD j 0)) := hd.at j hj
 have f1 : w.drew.frozen? ⟨g, i, none⟩ = false := (hd.cell i hi).2
 have HK1 : Hid (Kept (fun k => k = g) w (w.drew.setCell ⟨g, i, none⟩ (.int .i64 (l.getD j 0)))) := (Kept.refl _ _).drew.trans (kept_set _ g i _)
 have HK2 : Hid (Kept (fun k => k = g) w ((w.drew.setCell ⟨g, i, none⟩ (.int .i64 (l.getD j 0))).setCell ⟨g, j, none⟩ (.int .i64 (l.getD i 0)))) := HK1.out.trans (kept_set _ g j _)
 have hi' : (i : Int) < (l.length : Int) := by omega
 have hj' : (j : Int) < (l.length : Int) := by omega
 clear h hd h1 hi hj
 generalize swp l i j = r at *
 generalize l.getD i 0 = x at *
 generalize l.getD j 0 = y at *
 generalize l.length = n at *
 go_enter Tryz.func166, Tryz.ntmps166
 go_upto_region 0 with fail
 refine wp_region_held_drew (S := fun w' => Kept (fun k => k = g) w w') (by kernel_rfl) ((Kept.refl _ _).drew) (fun hHeld => ?_)
 generalize w.drew = wd at *
 iterate 7
  refine tkn (v := ?_) 0 rfl ?_ ?_; rotate_left 1
  ·intro w hSw; go_simp; try with_reducible rfl
  try simp only [Act.put, tdy]
 iterate 3
  refine tkn (v := ?_) 8 rfl ?_ ?_; rotate_left 1
  ·intro w hSw; go_simp; try with_reducible rfl
  try simp only [Act.put, tdy]
 refine wpAnyH_ready (rs := [7, 11]) (by kernel_rfl) (by simp) ?_
 refine AllReadyH.cons rfl (fun K hK => ?_) (AllReadyH.cons rfl (fun K hK => ?_) AllReadyH.nil)
 ·go_simp
  refine hK.out _ _ hHeld (fun hHeld => ?_)
  clear hK K
  try simp only [Act.put, tdy]
  refine rdy 11 rfl (fun K hK => ?_)
  go_simp
  refine hK.out _ _ hHeld (fun hHeld => ?_)
  clear hK K
  try simp only [Act.put, tdy]
  iterate 1
   refine tkn (v := ?_) 12 rfl ?_ ?_; rotate_left 1
   ·intro w hSw; go_simp; try with_reducible rfl
   try simp only [Act.put, tdy]
  refine rdy 13 rfl (fun K hK => ?_)
  go_simp
  refine hK.out _ _ HK1.out (fun hHeld => ?_)
  clear hK K
  try simp only [Act.put, tdy]
  iterate 1
   refine tkn (v := ?_) 14 rfl ?_ ?_; rotate_left 1
   ·intro w hSw; go_simp; try with_reducible rfl
   try simp only [Act.put, tdy]
  obtain ⟨⟨u2, e2⟩, f2⟩ := HC1.out
  refine rdy 15 rfl (fun K hK => ?_)
  go_simp
  refine hK.out _ _ HK2.out (fun hHeld => ?_)
  clear hK K
  try simp only [Act.put, tdy]
  refine wpAnyH_done (by kernel_rfl) ?_ _
  go_wp2
  go_end0
  exact ⟨rfl, HW2.out, HK2.out⟩
 ·go_simp
  refine hK.out _ _ hHeld (fun hHeld => ?_)
  clear hK K
  try simp only [Act.put, tdy]
  refine rdy 7 rfl (fun K hK => ?_)
  go_simp
  refine hK.out _ _ hHeld (fun hHeld => ?_)
  clear hK K
  try simp only [Act.put, tdy]
  iterate 1
   refine tkn (v := ?_) 12 rfl ?_ ?_; rotate_left 1
   ·intro w hSw; go_simp; try with_reducible rfl
   try simp only [Act.put, tdy]
  refine rdy 13 rfl (fun K hK => ?_)
  go_simp
  refine hK.out _ _ HK1.out (fun hHeld => ?_)
  clear hK K
  try simp only [Act.put, tdy]
  iterate 1
   refine tkn (v := ?_) 14 rfl ?_ ?_; rotate_left 1
   ·intro w hSw; go_simp; try with_reducible rfl
   try simp only [Act.put, tdy]
  obtain ⟨⟨u2, e2⟩, f2⟩ := HC1.out
  refine rdy 15 rfl (fun K hK => ?_)
  go_simp
  refine hK.out _ _ HK2.out (fun hHeld => ?_)
  clear hK K
  try simp only [Act.put, tdy]
  refine wpAnyH_done (by kernel_rfl) ?_ _
  go_wp2
  go_end0
  exact ⟨rfl, HW2.out, HK2.out⟩
theorem Wq.c0 {w : World} {base a g c : Nat} {l : List Int} (h : Wq w base a g c l) : w.cell? ⟨a, 0, none⟩ = some (.slice (some ⟨g, 0, none⟩) l.length c) := cell_block _ _ 0 _ _ _ h.box
theorem drewN_kept (w : World) (n : Nat) : KF w (w.drewN n) := kept_drewN (Kept.refl _ _) n
set_option maxHeartbeats 4000000 in
theorem hup {w : World} {base a g c : Nat} {l : List Int} (h : Wq w base a g c l) (j : Nat) (hj : j < l.length) (hl : l.length ≤ 10000) :
  Calls Tryz.prog 106 #[.iface 142 (.pointer (some ⟨a, 0, none⟩)), .int .i64 (j : Int)] w fun e w' => e = .returned (.tuple #[]) ∧ Wq w' base a g c (upL (j + 1) l j) ∧ Kept (fun k => k = g) w w' := by
 obtain ⟨n, hn⟩ := nmd (l.length)
 have HN := hid_of hn
 have H := hid_of h
 obtain ⟨R, hR⟩ := nmd (upL (j + 1) l j)
 rw [← hR]
 have HR := hid_of hR
 have HK := hid_of (Kept.refl (fun k => k = g) w)
 have hjn : j < n := by omega
 have hnl : n ≤ 10000 := by omega
 clear h hR hn hl hj
 go_enter Tryz.func106, Tryz.ntmps106
 go_wp2
 go_loopw [1] (fun jv wr => ∃ (j : Nat) (m : List Int), j < n ∧ jv = .int .i64 (j : Int) ∧ Hid (n = m.length) ∧ Hid (Wq wr base a g c m) ∧ Hid (∃ f, j < f ∧ R = upL f m j) ∧ Hid (Kept (fun k => k = g) w wr)) (fun jv _ => (intOf jv).toNat)
 case atStart => exact ⟨j, l, hjn, rfl, HN, H, ⟨j + 1, by omega, HR.out⟩, HK⟩
 case round =>
  clear HN H HR HK hjn
  obtain ⟨j, m, hj, rfl, HN, H, HR, HK⟩ := hrel
  rcases Nat.eq_zero_or_pos j with rfl | hj0
  ·have HR0 : Hid (R = m) := by
    obtain ⟨f, hf, hR⟩ := HR.out
    obtain ⟨f, rfl⟩ : ∃ f', f = f' + 1 := ⟨f - 1, by omega⟩
    unfold Hid; rw [hR]; simp [upL]
   go_wp2
   go_end0
   exact ⟨rfl, by rw [HR0.out]; exact H.out, HK.out⟩
  ·obtain ⟨i, hi⟩ := nmd ((j - 1) / 2)
   have hij : i < j := by omega
   have hq : Int.tdiv ((j : Int) - 1) 2 = (i : Int) := by rw [Int.tdiv_eq_ediv_of_nonneg (by omega)]; omega
   have hne : ((i : Int) == (j : Int)) = false := by simp; omega
   have HRS : Hid (∃ f, i < f ∧ R = if ¬ (m.getD j 0 < m.getD i 0) then m else upL f (swp m i j) i) := by
    obtain ⟨f, hf, hR⟩ := HR.out
    obtain ⟨f, rfl⟩ : ∃ f', f = f' + 1 := ⟨f - 1, by omega⟩
    refine ⟨f, by omega, ?_⟩
    rw [hR, upL, ← hi]
    by_cases h : m.getD j 0 < m.getD i 0
    ·rw [if_neg (by omega), if_neg (by omega)]
    ·rw [if_pos (.inr h), if_pos h]
   have HI := hid_of hi
   have hm := HN.out
   have hml := m_less wr a _ H.out.c0
   have HL := hid_of (iless H.out j i (by omega) (by omega))
   have HSW := hid_of (fun (W : World) (hW : KF wr W) => iswap (H.out.same hW) i j (by omega) (by omega))
   have HMS := hid_of (fun (W : World) (hW : KF wr W) => m_swap W a _ (H.out.same hW).c0)
   rw [← hm] at hml HL HSW HMS
   clear hi hm
   go_wp2_with fail
   refine HL.out.mono ?_
   rintro e w1 ⟨rfl, nq, rfl⟩
   have hms := HMS.out _ (drewN_kept wr nq)
   by_cases hlt : m.getD j 0 < m.getD i 0
   ·have HR2 : Hid (∃ f, i < f ∧ R = upL f (swp m i j) i) := by
     obtain ⟨f, hf, hR⟩ := HRS.out
     exact ⟨f, hf, by rw [hR, if_neg (by omega)]⟩
    have HSW2 := hid_of (HSW.out _ (drewN_kept wr nq))
    rw [decide_eq_true hlt]
    clear hml HL HSW HMS HRS hlt
    go_wp2_with fail
    refine HSW2.out.mono ?_
    rintro e w2 ⟨rfl, hW2, hk2⟩
    have H2 := hid_of hW2
    have HK2 : Hid (Kept (fun k => k = g) w w2) := (HK.out.trans (kept_drewN (Kept.refl _ _) nq)).trans hk2
    have HN2 : Hid (n = (swp m i j).length) := by unfold Hid; rw [swp_len]; exact HN.out
    clear hms HSW2 hW2 hk2
    go_wp2
    go_roundw
    case rel => exact ⟨i, swp m i j, by omega, rfl, HN2, H2, HR2, HK2⟩
    case measure => simp [intOf]; omega
   ·have HR2 : Hid (R = m) := by
     obtain ⟨f, hf, hR⟩ := HRS.out
     unfold Hid; rw [hR, if_pos (by omega)]
    rw [decide_eq_false hlt]
    have HD := hid_of (H.out.same (drewN_kept wr nq))
    have HK2 : Hid (Kept (fun k => k = g) w (wr.drewN nq)) := HK.out.trans (kept_drewN (Kept.refl _ _) nq)
    clear hml HL HSW HMS HRS hlt hms
    go_wp2
    go_end0
    exact ⟨rfl, by rw [HR2.out]; exact HD.out, HK2.out⟩
set_option maxHeartbeats 4000000 in
theorem hdown {w : World} {base a g c : Nat} {l : List Int} (h : Wq w base a g c l) (n : Nat) (hn : n < l.length) (hl : l.length ≤ 10000) :
  Calls Tryz.prog 104 #[.iface 142 (.pointer (some ⟨a, 0, none⟩)), .int .i64 0, .int .i64 (n : Int)] w fun e w' => (∃ b, e = .returned (.bool b)) ∧ Wq w' base a g c (downL (n + 1) l 0 n) ∧ Kept (fun k => k = g) w w' := by
 obtain ⟨N, hN⟩ := nmd (l.length)
 have HN := hid_of hN
 have H := hid_of h
 obtain ⟨R, hR⟩ := nmd (downL (n + 1) l 0 n)
 rw [← hR]
 have HR := hid_of hR
 have HK := hid_of (Kept.refl (fun k => k = g) w)
 have hnN : n < N := by omega
 have hnl : N ≤ 10000 := by omega
 clear h hR hN hl hn
 go_enter Tryz.func104, Tryz.ntmps104
 go_wp2
 go_loopw [7] (fun iv wr => ∃ (i : Nat) (m : List Int), (i < n ∨ i = 0) ∧ iv = .int .i64 (i : Int) ∧ Hid (N = m.length) ∧ Hid (Wq wr base a g c m) ∧ Hid (∃ f, n < f + i ∧ R = downL f m i n) ∧ Hid (Kept (fun k => k = g) w wr)) (fun iv _ => n - (intOf iv).toNat)
 case atStart => exact ⟨0, l, .inr rfl, rfl, HN, H, ⟨n + 1, by omega, HR.out⟩, HK⟩
 case round =>
  clear HN H HR HK
  obtain ⟨i, m, hin, rfl, HN, H, HR, HK⟩ := hrel
  obtain ⟨j1, hj1⟩ : ∃ j1 : Nat, j1 = 2 * i + 1 := ⟨_, rfl⟩
  obtain ⟨j2, hj2⟩ : ∃ j2 : Nat, j2 = j1 + 1 := ⟨_, rfl⟩
  have e1 : 2 * (i : Int) + 1 = (j1 : Int) := by omega
  have e2 : (j1 : Int) + 1 = (j2 : Int) := by omega
  by_cases h1 : j1 < n
  ·have h1' : (j1 : Int) < (n : Int) := by omega
   have h1n : ¬ ((n : Int) ≤ (j1 : Int)) := by omega
   have hp : ¬ ((j1 : Int) < 0) := by omega
   have HRS : Hid (∃ f, n < f + (i + 1) ∧ R = if ¬ (m.getD (lesser m j1 n) 0 < m.getD i 0) then m else downL f (swp m i (lesser m j1 n)) (lesser m j1 n) n) := by
    obtain ⟨f, hf, hR⟩ := HR.out
    obtain ⟨f, rfl⟩ : ∃ f', f = f' + 1 := ⟨f - 1, by omega⟩
    refine ⟨f, by omega, ?_⟩
    rw [hR, downL, ← hj1, if_neg (by omega)]
   have hij : i < j1 := by omega
   have hjj : j1 < j2 := by omega
   have HJ2 := hid_of hj2
   have hji : i ≤ 10000 := by omega
   by_cases h2 : j2 < n
   ·have h2' : (j2 : Int) < (n : Int) := by omega
    have hml := m_less wr a _ H.out.c0
    have HL := hid_of (iless H.out j2 j1 (by have := HN.out; omega) (by have := HN.out; omega))
    rw [← HN.out] at hml HL
    by_cases hl2 : m.getD j2 0 < m.getD j1 0
    ·have HJ : Hid (lesser m j1 n = j2) := by unfold Hid lesser; rw [← hj2, if_pos ⟨h2, hl2⟩]
     rw [decide_eq_true hl2] at HL
     clear hj1 hj2 hl2 HR
     go_wp2_with fail
     refine HL.out.mono ?_
     rintro e w1 ⟨rfl, nq, rfl⟩
     have H1 := hid_of (H.out.same (drewN_kept wr nq))
     have HK1 : Hid (Kept (fun k => k = g) w (wr.drewN nq)) := HK.out.trans (kept_drewN (Kept.refl _ _) nq)
     clear hml HL
     generalize wr.drewN nq = wA at *
     have hml2 := m_less wA a _ H1.out.c0
     have HL2 := hid_of (iless H1.out j2 i (by have := HN.out; omega) (by have := HN.out; omega))
     have HSW := hid_of (fun (W : World) (hW : KF (wA) W) => iswap (H1.out.same hW) i j2 (by have := HN.out; omega) (by have := HN.out; omega))
     have HMS := hid_of (fun (W : World) (hW : KF (wA) W) => m_swap W a _ (H1.out.same hW).c0)
     rw [← HN.out] at hml2 HL2 HSW HMS
     go_wp2_with fail
     refine HL2.out.mono ?_
     rintro e w1 ⟨rfl, np, rfl⟩
     have hms := HMS.out _ (drewN_kept _ np)
     by_cases hlt : m.getD j2 0 < m.getD i 0
     ·have HR2 : Hid (∃ f, n < f + j2 ∧ R = downL f (swp m i j2) j2 n) := by
       obtain ⟨f, hf, hR⟩ := HRS.out
       exact ⟨f, by omega, by rw [hR, HJ.out, if_neg (by omega)]⟩
      have HSW2 := hid_of (HSW.out _ (drewN_kept _ np))
      rw [decide_eq_true hlt]
      clear hml2 HL2 HSW HMS HRS hlt
      go_wp2_with fail
      refine HSW2.out.mono ?_
      rintro e w2 ⟨rfl, hW2, hk2⟩
      have H2 := hid_of hW2
      have HK2 : Hid (Kept (fun k => k = g) w w2) := (HK1.out.trans (kept_drewN (Kept.refl _ _) np)).trans hk2
      have HN2 : Hid (N = (swp m i j2).length) := by unfold Hid; rw [swp_len]; exact HN.out
      clear hms HSW2 hW2 hk2
      go_wp2
      go_roundw
      case rel => exact ⟨j2, swp m i j2, by omega, rfl, HN2, H2, HR2, HK2⟩
      case measure => simp [intOf]; omega
     ·have HR2 : Hid (R = m) := by
       obtain ⟨f, hf, hR⟩ := HRS.out
       unfold Hid; rw [hR, HJ.out, if_pos (by omega)]
      rw [decide_eq_false hlt]
      have HD := hid_of (H1.out.same (drewN_kept _ np))
      have HK2 : Hid (Kept (fun k => k = g) w ((wA).drewN np)) := HK1.out.trans (kept_drewN (Kept.refl _ _) np)
      clear hml2 HL2 HSW HMS HRS hlt hms
      go_wp2
      go_ret
      exact ⟨⟨_, rfl⟩, by rw [HR2.out]; exact HD.out, HK2.out⟩
    ·have HJ : Hid (lesser m j1 n = j1) := by unfold Hid lesser; rw [← hj2, if_neg (fun h => hl2 h.2)]
     rw [decide_eq_false hl2] at HL
     clear hj1 hj2 hl2 HR
     go_wp2_with fail
     refine HL.out.mono ?_
     rintro e w1 ⟨rfl, nq, rfl⟩
     have H1 := hid_of (H.out.same (drewN_kept wr nq))
     have HK1 : Hid (Kept (fun k => k = g) w (wr.drewN nq)) := HK.out.trans (kept_drewN (Kept.refl _ _) nq)
     clear hml HL
     generalize wr.drewN nq = wA at *
     have hml2 := m_less wA a _ H1.out.c0
     have HL2 := hid_of (iless H1.out j1 i (by have := HN.out; omega) (by have := HN.out; omega))
     have HSW := hid_of (fun (W : World) (hW : KF (wA) W) => iswap (H1.out.same hW) i j1 (by have := HN.out; omega) (by have := HN.out; omega))
     have HMS := hid_of (fun (W : World) (hW : KF (wA) W) => m_swap W a _ (H1.out.same hW).c0)
     rw [← HN.out] at hml2 HL2 HSW HMS
     go_wp2_with fail
     refine HL2.out.mono ?_
     rintro e w1 ⟨rfl, np, rfl⟩
     have hms := HMS.out _ (drewN_kept _ np)
     by_cases hlt : m.getD j1 0 < m.getD i 0
     ·have HR2 : Hid (∃ f, n < f + j1 ∧ R = downL f (swp m i j1) j1 n) := by
       obtain ⟨f, hf, hR⟩ := HRS.out
       exact ⟨f, by omega, by rw [hR, HJ.out, if_neg (by omega)]⟩
      have HSW2 := hid_of (HSW.out _ (drewN_kept _ np))
      rw [decide_eq_true hlt]
      clear hml2 HL2 HSW HMS HRS hlt
      go_wp2_with fail
      refine HSW2.out.mono ?_
      rintro e w2 ⟨rfl, hW2, hk2⟩
      have H2 := hid_of hW2
      have HK2 : Hid (Kept (fun k => k = g) w w2) := (HK1.out.trans (kept_drewN (Kept.refl _ _) np)).trans hk2
      have HN2 : Hid (N = (swp m i j1).length) := by unfold Hid; rw [swp_len]; exact HN.out
      clear hms HSW2 hW2 hk2
      go_wp2
      go_roundw
      case rel => exact ⟨j1, swp m i j1, by omega, rfl, HN2, H2, HR2, HK2⟩
      case measure => simp [intOf]; omega
     ·have HR2 : Hid (R = m) := by
       obtain ⟨f, hf, hR⟩ := HRS.out
       unfold Hid; rw [hR, HJ.out, if_pos (by omega)]
      rw [decide_eq_false hlt]
      have HD := hid_of (H1.out.same (drewN_kept _ np))
      have HK2 : Hid (Kept (fun k => k = g) w ((wA).drewN np)) := HK1.out.trans (kept_drewN (Kept.refl _ _) np)
      clear hml2 HL2 HSW HMS HRS hlt hms
      go_wp2
      go_ret
      exact ⟨⟨_, rfl⟩, by rw [HR2.out]; exact HD.out, HK2.out⟩
   ·have h2' : ¬ ((j2 : Int) < (n : Int)) := by omega
    have HJ : Hid (lesser m j1 n = j1) := by unfold Hid lesser; rw [← hj2, if_neg (fun h => h2 h.1)]
    have H1 := H
    have HK1 := HK
    clear hj1 hj2 HR
    have hml2 := m_less wr a _ H1.out.c0
    have HL2 := hid_of (iless H1.out j1 i (by have := HN.out; omega) (by have := HN.out; omega))
    have HSW := hid_of (fun (W : World) (hW : KF (wr) W) => iswap (H1.out.same hW) i j1 (by have := HN.out; omega) (by have := HN.out; omega))
    have HMS := hid_of (fun (W : World) (hW : KF (wr) W) => m_swap W a _ (H1.out.same hW).c0)
    rw [← HN.out] at hml2 HL2 HSW HMS
    go_wp2_with fail
    refine HL2.out.mono ?_
    rintro e w1 ⟨rfl, np, rfl⟩
    have hms := HMS.out _ (drewN_kept _ np)
    by_cases hlt : m.getD j1 0 < m.getD i 0
    ·have HR2 : Hid (∃ f, n < f + j1 ∧ R = downL f (swp m i j1) j1 n) := by
      obtain ⟨f, hf, hR⟩ := HRS.out
      exact ⟨f, by omega, by rw [hR, HJ.out, if_neg (by omega)]⟩
     have HSW2 := hid_of (HSW.out _ (drewN_kept _ np))
     rw [decide_eq_true hlt]
     clear hml2 HL2 HSW HMS HRS hlt
     go_wp2_with fail
     refine HSW2.out.mono ?_
     rintro e w2 ⟨rfl, hW2, hk2⟩
     have H2 := hid_of hW2
     have HK2 : Hid (Kept (fun k => k = g) w w2) := (HK1.out.trans (kept_drewN (Kept.refl _ _) np)).trans hk2
     have HN2 : Hid (N = (swp m i j1).length) := by unfold Hid; rw [swp_len]; exact HN.out
     clear hms HSW2 hW2 hk2
     go_wp2
     go_roundw
     case rel => exact ⟨j1, swp m i j1, by omega, rfl, HN2, H2, HR2, HK2⟩
     case measure => simp [intOf]; omega
    ·have HR2 : Hid (R = m) := by
      obtain ⟨f, hf, hR⟩ := HRS.out
      unfold Hid; rw [hR, HJ.out, if_pos (by omega)]
     rw [decide_eq_false hlt]
     have HD := hid_of (H1.out.same (drewN_kept _ np))
     have HK2 : Hid (Kept (fun k => k = g) w ((wr).drewN np)) := HK1.out.trans (kept_drewN (Kept.refl _ _) np)
     clear hml2 HL2 HSW HMS HRS hlt hms
     go_wp2
     go_ret
     exact ⟨⟨_, rfl⟩, by rw [HR2.out]; exact HD.out, HK2.out⟩
  ·have h1' : (n : Int) ≤ (j1 : Int) := by omega
   have HR2 : Hid (R = m) := by
    obtain ⟨f, hf, hR⟩ := HR.out
    rcases f with _ | f
    ·exact hR
    ·unfold Hid; rw [hR, downL, ← hj1, if_pos (by omega)]
   have hji : i ≤ 10000 := by omega
   clear hj1 hj2 HR
   go_wp2
   go_ret
   exact ⟨⟨_, rfl⟩, by rw [HR2.out]; exact H.out, HK.out⟩
theorem step_app {P : Program} {w : World} {ops : Array Oper} {o : Oper} {a : Act} {K : Act → World → Prop} {Q : Exit → Act → World → Prop} {E : Prop} (hg : o.guard = none) (s x : Operand) (t u : TypeId)
  (ho : o.op = .call { callee := .builtin .append, args := #[s, x], argTypes := #[t, u] }) (v bv : Value) (hs : a.eval s = v) (hx : a.eval x = bv) (v' : Value) (w' : World)
  (hr : (Builtin.append_ #[t, u] o.type #[v, bv]).run P w = .ok v' w') (h : K (a.put o.dst v') w') :
  if Region.wanted o (yielded ops a.tmps) = true then Oper.wp P o a w K Q else E := by
 have hw : Region.wanted o (yielded ops a.tmps) = true := by simp [Region.wanted, hg]
 rw [if_pos hw]
 unfold Oper.wp
 simp [execOp, ho, resolve, invoke, builtin, hs, hx, hr, Result.andThen]
 exact h
theorem assert3 (w : World) (x : Int) : (Instr.typeAssert (.iface 3 (.int .i64 x)) 20 3 false).run Tryz.prog w = .ok (.int .i64 x) w := by kernel_rfl
theorem Wq.app {W : World} {base a g c : Nat} {l : List Int} (h : Wq W base a g c l) (x : Int) (hl : l.length ≤ 10000) :
  ∃ g' c' w', (Builtin.append_ #[143, 143] 143 #[.slice (some ⟨g, 0, none⟩) l.length c, .slice (some ⟨W.heap.size, 0, none⟩) 1 1]).run Tryz.prog (W.alloc (.cells #[.int .i64 x] 3)) = .ok (.slice (some ⟨g', 0, none⟩) (l ++ [x]).length c') w' ∧ OwnN w' base (.slice (some ⟨g', 0, none⟩) (l ++ [x]).length c') (l ++ [x]) ∧ (g' = g ∨ W.heap.size ≤ g') ∧ Kept (fun k => k = g) W w' := by
 obtain ⟨i0, hi, hz0, hz1, hz2⟩ := info_parts Tryz.info3
 have hb : base ≤ W.heap.size := Nat.le_of_lt (Nat.lt_of_le_of_lt (h.row.lt g rfl).1 (h.row.lt g rfl).2)
 obtain ⟨v', w', hr, h2, h3, h4, _⟩ := append_old (P := Tryz.prog) (W.alloc (.cells #[.int .i64 x] 3)) base 143 143 3 i0 _ 1 8 Tryz.underlying143 hi hz0 hz1 hz2 rfl (by decide) (.slice (some ⟨g, 0, none⟩) l.length c) l.length (ints l) (h.row.alloc _) ⟨W.heap.size, 0, none⟩ 1 1 [.int .i64 x] rfl (fun j u hj => by
  rw [Addr.add_lit, cell_block _ _ _ _ _ _ (heap_alloc_new W _), Nat.zero_add]
  simpa using hj) (fun u hu => by simp at hu; rw [hu]; rfl) (by unfold maxLen; omega) (by omega) (by simp; omega)
 have e : ints l ++ [.int .i64 x] = ints (l ++ [x]) := by simp [ints]
 have hln : l.length + 1 = (l ++ [x]).length := by simp
 rw [e, hln] at h2
 have hk : Kept (fun k => k = g) W w' := ((Kept.refl _ W).alloc _).grown h3 (fun k hk => .inr (by simp [Value.ownBlock] at hk; exact hk.symm))
 rcases h2.2 with ⟨_, h0⟩ | ⟨g', cap, cur, rfl, rest⟩
 ·simp at h0
 ·refine ⟨g', cap, w', hr, h2, ?_, hk⟩
  rcases h4 with h4 | h4
  ·simp [Value.ownBlock] at h4; exact .inl h4
  ·simp [Value.ownBlock] at h4; exact .inr (by omega)
set_option maxHeartbeats 4000000 in
theorem wpush {w : World} {base a g c : Nat} {l : List Int} (h : Wq w base a g c l) (x : Int) (hl : l.length ≤ 10000) :
  Calls Tryz.prog 164 #[.pointer (some ⟨a, 0, none⟩), .iface 3 (.int .i64 x)] w fun e w' => e = .returned (.tuple #[]) ∧ ∃ g' c', Wq w' base a g' c' (l ++ [x]) ∧ (g' = g ∨ w.heap.size ≤ g') ∧ Kept (fun k => k = g ∨ k = a) w w' := by
 have hd : Wq w.drew base a g c l := h.same (Kept.refl _ _).drew
 obtain ⟨g', c', w', hr, ho, hg', hk⟩ := hd.app x hl
 have hbx : w'.heap[a]? = some (.cells #[.slice (some ⟨g, 0, none⟩) l.length c] 145 (0, 0)) := box_kept hk hd.box (fun e => hd.ne e.symm)
 have HD : Hid ((∃ u, w'.cell? ⟨a, 0, none⟩ = some u) ∧ w'.frozen? ⟨a, 0, none⟩ = false) := ⟨⟨_, cell_block _ _ 0 _ _ _ hbx⟩, frozen_block _ _ 0 _ _ hbx⟩
 have hks := kept_set w' a 0 (.slice (some ⟨g', 0, none⟩) (l ++ [x]).length c')
 have HW2 : Hid (Wq (w'.setCell ⟨a, 0, none⟩ (.slice (some ⟨g', 0, none⟩) (l ++ [x]).length c')) base a g' c' (l ++ [x])) := by
  refine ⟨set_block _ _ 0 _ _ _ hbx _, hks.ownsRow ho (fun q hq e => ?_), h.low⟩
  subst e
  rcases ho.2 with ⟨e, _⟩ | ⟨g2, cap, cur, e, _, hgg, _⟩
  ·cases e
  ·cases e
   simp [Value.ownBlock] at hq
   subst hq
   rw [hbx] at hgg
   cases hgg
 have HGN : Hid (g' = g ∨ w.heap.size ≤ g') := hg'
 have hk1 : Kept (fun k => k = g ∨ k = a) w w' := ((Kept.refl (fun k => k = g) w).drew.trans hk).mono (fun _ _ e => .inl e)
 have HK1 := hid_of hk1
 have HK2 : Hid (Kept (fun k => k = g ∨ k = a) w (w'.setCell ⟨a, 0, none⟩ (.slice (some ⟨g', 0, none⟩) (l ++ [x]).length c'))) := hk1.trans (hks.mono (fun _ _ e => .inr e))
 have HKA : Hid (Kept (fun k => k = g ∨ k = a) w (w.drew.alloc (.cells #[.int .i64 x] 3))) := (Kept.refl _ w).drew.alloc _
 have hc0 := hd.c0
 have hc1 : (w.drew.alloc (.cells #[.int .i64 x] 3)).cell? ⟨a, 0, none⟩ = some (.slice (some ⟨g, 0, none⟩) l.length c) := (hd.same ((Kept.refl _ _).alloc _)).c0
 have HAP := hid_of hr
 have hta := fun W => assert3 W x
 clear h hd hr ho hg' hk hbx hks hk1
 generalize (l ++ [x]).length = n1 at *
 generalize l ++ [x] = l1 at *
 generalize l.length = n at *
 go_enter Tryz.func164, Tryz.ntmps164
 go_upto_region 0 with fail
 refine wp_region_held_drew (S := fun w' => Kept (fun k => k = g ∨ k = a) w w') (by kernel_rfl) ((Kept.refl _ _).drew) (fun hHeld => ?_)
 generalize w.drew = wd at *
 iterate 4
  refine tkn (v := ?_) 0 rfl ?_ ?_; rotate_left 1
  ·intro w hSw; go_simp; try with_reducible rfl
  try simp only [Act.put, tdy]
 iterate 2
  refine tkn (v := ?_) 5 rfl ?_ ?_; rotate_left 1
  ·intro w hSw; go_simp; try with_reducible rfl
  try simp only [Act.put, tdy]
 refine wpAnyH_ready (rs := [4, 7]) (by kernel_rfl) (by simp) ?_
 refine AllReadyH.cons rfl (fun K hK => ?_) (AllReadyH.cons rfl (fun K hK => ?_) AllReadyH.nil)
 ·go_simp
  refine hK.out _ _ hHeld (fun hHeld => ?_)
  clear hK K
  try simp only [Act.put, tdy]
  refine rdy 7 rfl (fun K hK => ?_)
  go_simp
  refine hK.out _ _ HKA.out (fun hHeld => ?_)
  clear hK K
  try simp only [Act.put, tdy]
  clear hc0
  refine rdy 8 rfl (fun K hK => ?_)
  refine step_app rfl (.tmp 8) (.tmp 11) 143 143 rfl _ _ rfl rfl (.slice (some ⟨g', 0, none⟩) n1 c') w' HAP.out ?_
  refine hK.out _ _ HK1.out (fun hHeld => ?_)
  clear hK K
  try simp only [Act.put, tdy]
  obtain ⟨⟨d0, d1⟩, e0⟩ := HD.out
  iterate 2
   refine tkn (v := ?_) 9 rfl ?_ ?_; rotate_left 1
   ·intro w hSw; go_simp; try with_reducible rfl
   try simp only [Act.put, tdy]
  refine rdy 11 rfl (fun K hK => ?_)
  go_simp
  refine hK.out _ _ HK2.out (fun hHeld => ?_)
  clear hK K
  try simp only [Act.put, tdy]
  refine wpAnyH_done (by kernel_rfl) ?_ _
  go_wp2
  go_end0
  exact ⟨rfl, g', c', HW2.out, HGN.out, HK2.out⟩
 ·go_simp
  refine hK.out _ _ HKA.out (fun hHeld => ?_)
  clear hK K
  try simp only [Act.put, tdy]
  refine rdy 4 rfl (fun K hK => ?_)
  go_simp
  refine hK.out _ _ hHeld (fun hHeld => ?_)
  clear hK K
  try simp only [Act.put, tdy]
  refine rdy 8 rfl (fun K hK => ?_)
  refine step_app rfl (.tmp 8) (.tmp 11) 143 143 rfl _ _ rfl rfl (.slice (some ⟨g', 0, none⟩) n1 c') w' HAP.out ?_
  refine hK.out _ _ HK1.out (fun hHeld => ?_)
  clear hK K
  try simp only [Act.put, tdy]
  obtain ⟨⟨d0, d1⟩, e0⟩ := HD.out
  iterate 2
   refine tkn (v := ?_) 9 rfl ?_ ?_; rotate_left 1
   ·intro w hSw; go_simp; try with_reducible rfl
   try simp only [Act.put, tdy]
  refine rdy 11 rfl (fun K hK => ?_)
  go_simp
  refine hK.out _ _ HK2.out (fun hHeld => ?_)
  clear hK K
  try simp only [Act.put, tdy]
  refine wpAnyH_done (by kernel_rfl) ?_ _
  go_wp2
  go_end0
  exact ⟨rfl, g', c', HW2.out, HGN.out, HK2.out⟩
theorem ints_take (l : List Int) (n : Nat) : ints (l.take n) = (ints l).take n := by simp [ints, List.map_take]
set_option maxHeartbeats 4000000 in
theorem wpop {w : World} {base a g c : Nat} {l : List Int} (h : Wq w base a g c l) (n : Nat) (hn : l.length = n + 1) (hl : l.length ≤ 10000) :
  Calls Tryz.prog 163 #[.pointer (some ⟨a, 0, none⟩)] w fun e w' => e = .returned (.iface 3 (.int .i64 (l.getD n 0))) ∧ Wq w' base a g c (l.take n) ∧ Kept (fun k => k = a) w w' := by
 have hc := h.at n (by omega)
 have c0 := h.c0
 have f0 := frozen_block _ _ 0 _ _ h.box
 have HI := hid_of (fun W => ilen (some ⟨g, 0, none⟩) l.length c W)
 have hln : (l.take n).length = n := by rw [List.length_take]; omega
 have hks := kept_set w a 0 (.slice (some ⟨g, 0, none⟩) n c)
 have hcap : l.length ≤ c := by
  rcases h.row.2 with ⟨e, _⟩ | ⟨g', cap, cur, e, _, _, hnc, _⟩
  ·cases e
  ·cases e; exact hnc
 have HW2 : Hid (Wq (w.setCell ⟨a, 0, none⟩ (.slice (some ⟨g, 0, none⟩) n c)) base a g c (l.take n)) := by
  refine ⟨by rw [hln]; exact set_block _ _ 0 _ _ _ h.box _, ?_, h.low⟩
  have ho : OwnN w base (.slice (some ⟨g, 0, none⟩) (l.take n).length c) (l.take n) := by
   refine ⟨by simp [ints], ?_⟩
   rcases h.row.2 with ⟨e, _⟩ | ⟨g', cap, cur, e, hb, hgg, hnc, hm, hs, ht⟩
   ·cases e
   ·cases e
    refine .inr ⟨g, c, cur, rfl, hb, hgg, by omega, hm, hs, ?_⟩
    rw [hln, ints_take, ← ht, List.take_take]
    congr 1
    omega
  exact hks.ownsRow ho (fun q hq e => by simp [Value.ownBlock] at hq; exact h.ne (hq.trans e))
 have HKS := hid_of hks
 have hnI : ((n + 1 : Nat) : Int) - 1 = (n : Int) := by omega
 rw [hn] at c0 HI hcap hl
 clear h hks hln hn
 generalize l.take n = l2 at *
 generalize l.getD n 0 = x at *
 go_enter Tryz.func163, Tryz.ntmps163
 go_wp2_with fail
 refine (HI.out _).mono ?_
 rintro e w1 ⟨rfl, rfl⟩
 go_wp2
 go_ret
 exact ⟨rfl, HW2.out, HKS.out⟩
set_option maxHeartbeats 4000000 in
theorem hpush {w : World} {base a g c : Nat} {l : List Int} (h : Wq w base a g c l) (x : Int) (hl : l.length < 10000) :
  Calls Tryz.prog 87 #[.iface 142 (.pointer (some ⟨a, 0, none⟩)), .iface 3 (.int .i64 x)] w fun e w' => e = .returned (.tuple #[]) ∧ ∃ g' c', Wq w' base a g' c' (upL (l.length + 1) (l ++ [x]) l.length) ∧ (g' = g ∨ w.heap.size ≤ g') ∧ Kept (fun k => k = g ∨ k = a) w w' := by
 have hmp := m_push w a
 obtain ⟨R, hR⟩ := nmd (upL (l.length + 1) (l ++ [x]) l.length)
 rw [← hR]
 have HRR := hid_of hR
 have HP := hid_of (wpush h x (by omega))
 have HL := hid_of hl
 clear h hR
 go_enter Tryz.func87, Tryz.ntmps87
 go_wp2_with fail
 refine HP.out.mono ?_
 rintro e w1 ⟨rfl, g', c', hW, hg, hk⟩
 have hml := m_len w1 a _ hW.c0
 have HU := hid_of (hup hW l.length (by simp) (by simp; omega))
 have HI := hid_of (fun W => ilen (some ⟨g', 0, none⟩) (l ++ [x]).length c' W)
 have HG := hid_of hg
 have HK := hid_of hk
 have hln : (l ++ [x]).length = l.length + 1 := by simp
 rw [hln] at hml HI
 have hnI : ((l.length + 1 : Nat) : Int) - 1 = (l.length : Int) := by omega
 clear hmp HP hW hg hk hln
 generalize l.length = n at *
 generalize l ++ [x] = l1 at *
 go_wp2_with fail
 refine (HI.out _).mono ?_
 rintro e w2 ⟨rfl, rfl⟩
 go_wp2_with fail
 refine HU.out.mono ?_
 rintro e w3 ⟨rfl, hW3, hk3⟩
 have HW3 := hid_of hW3
 have HK3 : Hid (Kept (fun k => k = g ∨ k = a) w w3) := HK.out.step hk3 (fun i hi e => by
  rcases HG.out with h | h
  ·exact .inl (e.trans h)
  ·omega)
 clear hW3 hk3 hml HU HI
 go_wp2
 go_end0
 exact ⟨rfl, g', c', by rw [HRR.out]; exact HW3.out, HG.out, HK3.out⟩
def popL (l : List Int) : Int × List Int := ((downL (l.length - 1 + 1) (swp l 0 (l.length - 1)) 0 (l.length - 1)).getD (l.length - 1) 0, (downL (l.length - 1 + 1) (swp l 0 (l.length - 1)) 0 (l.length - 1)).take (l.length - 1))
theorem downL_len : ∀ (f : Nat) (l : List Int) (i n : Nat), (downL f l i n).length = l.length
 | 0, l, i, n => rfl
 | f + 1, l, i, n => by
  rw [downL]
  split
  ·rfl
  ·split
   ·rfl
   ·rw [downL_len, swp_len]
set_option maxHeartbeats 4000000 in
theorem hpop {w : World} {base a g c : Nat} {l : List Int} (h : Wq w base a g c l) (h0 : 0 < l.length) (hl : l.length ≤ 10000) :
  Calls Tryz.prog 84 #[.iface 142 (.pointer (some ⟨a, 0, none⟩))] w fun e w' => e = .returned (.iface 3 (.int .i64 (popL l).1)) ∧ Wq w' base a g c (popL l).2 ∧ Kept (fun k => k = g ∨ k = a) w w' := by
 obtain ⟨n, hn⟩ : ∃ n, l.length = n + 1 := ⟨l.length - 1, by omega⟩
 have hmL := m_len w a _ h.c0
 have hmS := m_swap w a _ h.c0
 have HI := hid_of (fun W => ilen (some ⟨g, 0, none⟩) l.length c W)
 have HS := hid_of (iswap h 0 n (by omega) (by omega))
 have HPL : Hid (popL l = ((downL (n + 1) (swp l 0 n) 0 n).getD n 0, (downL (n + 1) (swp l 0 n) 0 n).take n)) := by unfold Hid popL; rw [hn]; rfl
 have hnI : ((n + 1 : Nat) : Int) - 1 = (n : Int) := by omega
 have hsl : (swp l 0 n).length = n + 1 := by rw [swp_len, hn]
 rw [hn] at hmL hmS HI HS hl
 have HSL := hid_of hsl
 rw [show ((0 : Nat) : Int) = 0 from rfl] at HS
 clear h h0 hn hsl
 obtain ⟨px, hpx⟩ := nmd ((popL l).1)
 obtain ⟨pl, hpl⟩ := nmd ((popL l).2)
 rw [← hpx, ← hpl]
 rw [HPL.out] at hpx hpl
 have HPX := hid_of hpx
 have HPY := hid_of hpl
 clear HPL hpx hpl
 generalize swp l 0 n = l1 at *
 go_enter Tryz.func84, Tryz.ntmps84
 go_wp2_with fail
 refine (HI.out _).mono ?_
 rintro e w1 ⟨rfl, hw⟩
 have hw := hw.symm
 subst hw
 go_wp2_with fail
 refine HS.out.mono ?_
 rintro e w2 ⟨rfl, hW2, hk2⟩
 have HD := hid_of (hdown hW2 n (by rw [HSL.out]; omega) (by rw [HSL.out]; omega))
 have HK2 := hid_of hk2
 clear hmL hmS HI HS hW2 hk2
 go_wp2_with fail
 refine HD.out.mono ?_
 rintro e w3 ⟨⟨b, rfl⟩, hW3, hk3⟩
 have HDL : Hid ((downL (n + 1) l1 0 n).length = n + 1) := by unfold Hid; rw [downL_len]; exact HSL.out
 generalize downL (n + 1) l1 0 n = l2 at *
 have hmP := m_pop w3 a
 have HP := hid_of (wpop hW3 n HDL.out (by rw [HDL.out]; exact hl))
 have HK3 := hid_of (HK2.out.trans hk3)
 clear HD hW3 hk3
 go_wp2_with fail
 refine HP.out.mono ?_
 rintro e w4 ⟨rfl, hW4, hk4⟩
 have HW4 := hid_of hW4
 have HK4 : Hid (Kept (fun k => k = g ∨ k = a) w w4) := (HK3.out.mono (fun _ _ e => .inl e)).trans (hk4.mono (fun _ _ e => .inr e))
 clear hW4 hk4 HP hmP
 go_wp2
 go_ret
 exact ⟨by rw [HPX.out]; simp [List.getD], by rw [HPY.out]; exact HW4.out, HK4.out⟩
end Go.Proofs.YtcaadgcfceommaaGreat

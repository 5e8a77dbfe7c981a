import Derived.Test.YtcaadgcfceommaaGreatTKy
namespace Go.Proofs.YtcaadgcfceommaaGreat
open Go.RowKit
set_option linter.unusedVariables false
set_option linter.unusedSimpArgs false
set_option maxRecDepth 100000
structure FX where
 heights : List (List Int)
 tops : List Int
 loops : List (List Int)
 live : List Bool
 cells : Int
 cost : Int
def liveP (order : List Int) (n : Nat) : List Bool := order.foldl (fun l m => l.set m.toNat true) (List.replicate n false)
def leadP (bs : List BD) (i : Nat) : List Int := namedP (bs.getD i bd0)
def factsP (p : PG) (bs : List BD) : FX :=
 ⟨bs.map BD.hs, bs.map topP, bs.map BD.loops, liveP (tourP (leadP bs) bs.length).order bs.length,
  if true ∈ (tourP (leadP bs) bs.length).again then -1 else cellsOfP p bs (tourP (leadP bs) bs.length).order, if true ∈ (tourP (leadP bs) bs.length).again then -1 else costOfP bs (tourP (leadP bs) bs.length).order⟩
def rowCol (w : World) (g n c : Nat) : List Value := (List.range n).map (fun i => (w.cell? ⟨g, i * 4 + c, none⟩).getD undef)
theorem rowCol_take (w : World) (g n c k : Nat) (x : Value) (hk : k < n) (h : w.cell? ⟨g, k * 4 + c, none⟩ = some x) : (rowCol w g n c).take (k + 1) = (rowCol w g n c).take k ++ [x] := by
 rw [List.take_add_one]
 congr 1
 simp [rowCol, hk, h]
theorem topRow_take (bs : List BD) (k : Nat) (hk : k < bs.length) : (bs.map topP).take (k + 1) = (bs.map topP).take k ++ [topP (bs.getD k bd0)] := by
 rw [List.take_add_one]
 congr 1
 simp [List.getD, List.getElem?_eq_getElem hk]
def FactsAt (w : World) (B nf : Nat) (v : Value) (fx : FX) : Prop := ∃ (hvv tvv lvv : Value) (gl : Nat) (HV LV : List Value), v = .agg #[hvv, tvv, lvv, .slice (some ⟨gl, 0, none⟩) nf nf, .int .i64 fx.cells, .int .i64 fx.cost] ∧ w.ownsRow B 30 1 hvv nf HV ∧ (∀ (i : Nat) (l : List Int), fx.heights[i]? = some l → ∃ u, HV[i]? = some u ∧ OwnN w 0 u l) ∧ OwnN w B tvv fx.tops ∧ w.ownsRow B 30 1 lvv nf LV ∧ (∀ (i : Nat) (l : List Int), fx.loops[i]? = some l → ∃ u, LV[i]? = some u ∧ OwnN w 0 u l) ∧ w.ownsRow B 4 1 (.slice (some ⟨gl, 0, none⟩) nf nf) nf (bools fx.live)
def FacR (p : PG) (bs : List BD) (nf : Nat) (w : World) (e : Ending) (w' : World) : Prop := KF w w' ∧ ∃ v, e = .returned v ∧ FactsAt w' w.heap.size nf v (factsP p bs)
theorem named_mem (b : BD) : ∀ (ms l : List Int) (x : Int), x ∈ ms.foldl (nameF b) l → x ∈ l ∨ ∃ m ∈ ms, x = (b.ss.getD m.toNat st0).a
 | [], l, x, h => .inl h
 | m :: ms, l, x, h => by
  rcases named_mem b ms (nameF b l m) x h with h | ⟨q, hq, e⟩
  ·unfold nameF at h
   split at h
   ·exact .inl h
   ·rcases List.mem_append.1 h with h | h
    ·exact .inl h
    ·exact .inr ⟨m, by simp, by simpa using h⟩
  ·exact .inr ⟨q, by simp [hq], e⟩
theorem named_rng {nf n : Nat} {b : BD} (h : BdFull nf n b) : (namedP b).length ≤ 5000 ∧ ∀ x ∈ namedP b, 0 ≤ x ∧ x < nf := by
 refine ⟨?_, fun x hx => ?_⟩
 ·have h1 := named_len b (callsP b) []
  have h2 := callsP_len b
  have h3 := h.ol
  have h4 := h.n1.2
  simp only [List.length_nil] at h1
  unfold namedP
  omega
 ·rcases named_mem b _ _ x hx with h1 | ⟨m, hm, rfl⟩
  ·simp at h1
  ·exact h.cl m hm
theorem next66 (gM gm n clk : Nat) (es : List (Me Int Value)) (v : Value) (W : World) (hb : W.heap[gM]? = some (.cells #[.map (some gm)] 119 (0, 0))) (hm : W.heap[gm]? = some (.map (es.map cL.ent).toArray clk)) (hl : look es (n : Int) = some v) :
  Calls Tryz.prog 66 #[.int .i64 (n : Int), .pointer (some ⟨gM, 0, none⟩)] W fun e w' => e = .returned v ∧ w' = W := by
 have b0 := cell_block _ _ 0 _ _ _ hb
 have hlk := run_look fitsL W gm clk es hm (n : Int) false
 have e : lookV cL (.slice none 0 0) es (n : Int) = v := by unfold lookV; rw [hl]; rfl
 rw [e, show cL.enc (n : Int) = .int .i64 (n : Int) from rfl] at hlk
 simp only [Bool.false_eq_true, if_false] at hlk
 clear hb hm hl e
 go_enter Tryz.func66, Tryz.ntmps66
 go_wp2
 go_ret
 exact ⟨rfl, rfl⟩
theorem own_putL {w0 W : World} {g c n : Nat} {l : List Bool} (h : W.ownsRow w0.heap.size 4 1 (.slice (some ⟨g, 0, none⟩) n c) n (bools l)) (i : Nat) (x : Bool) : (W.setCell ⟨g, i, none⟩ (.bool x)).ownsRow w0.heap.size 4 1 (.slice (some ⟨g, 0, none⟩) n c) n (bools (l.set i x)) := by
 rw [show bools (l.set i x) = (bools l).set i (.bool x) by simp [bools, List.map_set]]
 exact (World.ownsRow.stored h i (.bool x)).1
theorem set6 (w : World) (g : Nat) (t : TypeId) (a0 a1 a2 a3 a4 a5 x0 x1 x2 x3 x4 x5 : Value) (h : w.heap[g]? = some (.cells #[a0, a1, a2, a3, a4, a5] t (0, 0))) :
  ((((((w.setCell ⟨g, 0, none⟩ x0).setCell ⟨g, 1, none⟩ x1).setCell ⟨g, 2, none⟩ x2).setCell ⟨g, 3, none⟩ x3).setCell ⟨g, 4, none⟩ x4).setCell ⟨g, 5, none⟩ x5).heap[g]? = some (.cells #[x0, x1, x2, x3, x4, x5] t (0, 0)) ∧ Kept (fun k => k = g) w ((((((w.setCell ⟨g, 0, none⟩ x0).setCell ⟨g, 1, none⟩ x1).setCell ⟨g, 2, none⟩ x2).setCell ⟨g, 3, none⟩ x3).setCell ⟨g, 4, none⟩ x4).setCell ⟨g, 5, none⟩ x5) := by
 have h1 := set_block _ _ 0 _ _ _ h x0
 have h2 := set_block _ _ 1 _ _ _ h1 x1
 have h3 := set_block _ _ 2 _ _ _ h2 x2
 have h4 := set_block _ _ 3 _ _ _ h3 x3
 have h5 := set_block _ _ 4 _ _ _ h4 x4
 have h6 := set_block _ _ 5 _ _ _ h5 x5
 exact ⟨h6, (((((kept_set w g 0 x0).trans (kept_set _ g 1 x1)).trans (kept_set _ g 2 x2)).trans (kept_set _ g 3 x3)).trans (kept_set _ g 4 x4)).trans (kept_set _ g 5 x5)⟩
theorem look6 {w : World} {g : Nat} {t : TypeId} {a0 a1 a2 a3 a4 a5 : Value} (h : w.heap[g]? = some (.cells #[a0, a1, a2, a3, a4, a5] t (0, 0))) : (w.cell? ⟨g, 0, none⟩ = some a0 ∧ w.cell? ⟨g, 1, none⟩ = some a1 ∧ w.cell? ⟨g, 2, none⟩ = some a2 ∧ w.cell? ⟨g, 3, none⟩ = some a3 ∧ w.cell? ⟨g, 4, none⟩ = some a4 ∧ w.cell? ⟨g, 5, none⟩ = some a5) ∧ w.frozen? ⟨g, 0, none⟩ = false ∧ w.frozen? ⟨g, 1, none⟩ = false ∧ w.frozen? ⟨g, 2, none⟩ = false ∧ w.frozen? ⟨g, 3, none⟩ = false ∧ w.frozen? ⟨g, 4, none⟩ = false ∧ w.frozen? ⟨g, 5, none⟩ = false :=
 ⟨⟨cell_block _ _ 0 _ _ _ h, cell_block _ _ 1 _ _ _ h, cell_block _ _ 2 _ _ _ h, cell_block _ _ 3 _ _ _ h, cell_block _ _ 4 _ _ _ h, cell_block _ _ 5 _ _ _ h⟩, frozen_block _ _ 0 _ _ h, frozen_block _ _ 1 _ _ h, frozen_block _ _ 2 _ _ h, frozen_block _ _ 3 _ _ h, frozen_block _ _ 4 _ _ h, frozen_block _ _ 5 _ _ h⟩
theorem size33 : (Tryz.prog.info? 33).map (·.size) = some 6 := by kernel_rfl
set_option maxHeartbeats 32000000 in
theorem facts_any (v : Value) (p : PG) (w : World) (B : Nat) (h : PgIs w B v p) (hB : B ≤ w.heap.size) (bs : List BD) (B2 gB cB : Nat) (hbs : RowB w B2 gB bs) (hgB : gB < w.heap.size) (hlen : bs.length = p.fns.length) (hn64 : 1 ≤ bs.length ∧ bs.length ≤ 64) (hfull : ∀ b ∈ bs, BdFull bs.length b.ss.length b) (hll4 : ∀ b ∈ bs, b.loops.length ≤ 5000) :
  Calls Tryz.prog 36 #[v, .slice (some ⟨gB, 0, none⟩) bs.length cB] w (FacR p bs bs.length w) := by
 have HPG := hid_of h
 obtain ⟨dv, fv, rfl, hd, hdl, hf⟩ := h
 obtain ⟨dao, dc, rfl⟩ := hd.shape
 obtain ⟨fao, fc, rfl⟩ := hf.shape
 rw [← hlen] at HPG ⊢
 obtain ⟨nf, hnf⟩ := nmd (bs.length)
 obtain ⟨nd, hnd⟩ := nmd (p.data.length)
 obtain ⟨mem, hmem⟩ := nmd (p.mem)
 rw [← hnf] at hn64 hfull HPG
 rw [← hnd, ← hmem] at HPG
 rw [← hnf, ← hnd, ← hmem]
 obtain ⟨s, hs⟩ := nmd (w.heap.size)
 obtain ⟨W2, hW2⟩ := nmd ((w.alloc (.cells #[.int .i64 mem, .slice dao nd dc, .slice fao nf fc] 25)).alloc (.cells #[.slice none 0 0, .slice none 0 0, .slice none 0 0, .slice none 0 0, .int .i64 0, .int .i64 0] 33))
 obtain ⟨k2, x1, x2⟩ := allocs2 _ _ _ _ _ _ hW2
 have hs2 : W2.heap.size = s + 2 := by rw [hW2, hs]; simp
 have hMB := makeBool W2 nf (by omega)
 obtain ⟨W4, hW4⟩ := nmd ((W2.alloc (.cells (zbool nf) 4)).alloc (.cells #[.slice none 0 0, .slice none 0 0, .slice none 0 0, .slice (some ⟨s + 2, 0, none⟩) nf nf, .int .i64 0, .int .i64 0] 33))
 obtain ⟨k4, x3, x4⟩ := allocs2 _ _ _ _ _ _ hW4
 have hs4 : W4.heap.size = s + 4 := by rw [hW4]; simp [hs2]
 obtain ⟨W5, hW5⟩ := nmd (W4.alloc (.map #[] 0))
 have k5 : KF W4 W5 := by rw [hW5]; exact (Kept.refl _ _).alloc _
 have x5 : W5.heap[s + 4]? = some (.map #[] 0) := by rw [hW5, ← hs4]; exact heap_alloc_new _ _
 have hs5 : W5.heap.size = s + 5 := by rw [hW5]; simp [hs4]
 obtain ⟨W6, hW6⟩ := nmd (W5.alloc (.cells #[.map (some (s + 4))] 119))
 have k6 : KF W5 W6 := by rw [hW6]; exact (Kept.refl _ _).alloc _
 have x6 : W6.heap[s + 5]? = some (.cells #[.map (some (s + 4))] 119 (0, 0)) := by rw [hW6, ← hs5]; exact heap_alloc_new _ _
 rw [hs2] at x3 x4 hMB
 rw [← hs] at x1 x2
 have k46 := k5.trans k6
 have k26 := k4.trans k46
 have HB1 := hid_of x1
 have HB2 := hid_of x2
 have HK2 := hid_of k2
 have HFA : Hid (Fac W2 W6 nf (s + 2) (s + 3) (s + 4) (s + 5) (rowCol W2 gB nf 1) (rowCol W2 gB nf 2) bs 0 0 0 0 (.slice none 0 0) (.slice none 0 0) (.slice none 0 0) [] 0) :=
  ⟨box_kept k46 x4 id, World.ownsRow_nil _ _ _ _, World.ownsRow_nil _ _ _ _, World.ownsRow_nil _ _ _ _, obj_kept k6 x5 id, x6, own_zbool _ _ _ _ (box_kept k46 x3 id) (by omega) (by omega), fun i hi => (by omega), fun q hq => (by cases hq), k26, by omega⟩
 have HSZ : Hid (s < W2.heap.size ∧ s + 1 < W2.heap.size) := by unfold Hid; omega
 have HRB := hid_of (hbs.same k2)
 have HFU := hid_of hfull
 have HNF := hid_of hnf
 have HS := hid_of hs
 have HGL : Hid (B ≤ w.heap.size ∧ gB < w.heap.size) := ⟨hB, hgB⟩
 have HLEN := hid_of hlen
 have HL4 := hid_of hll4
 clear hll4
 have hn0 : (0 : Int) ≤ (nf : Int) := by omega
 have hmm := @run_makeMap Tryz.prog
 clear x1 x2 x3 x4 x5 x6 k2 k4 k5 k6 k46 k26 hbs hfull hnf hB hgB hlen hd hdl hf hnd hmem
 go_enter Tryz.func36, Tryz.ntmps36
 go_upto_region 1 with fail
 rw [← hW2, ← hs]
 clear hW2 hs
 go_upto_region 2 with fail
 rw [← hW4]
 clear hW4 hMB hs2
 go_upto_region 3 with fail
 rw [← hW5, ← hW6]
 clear hW5 hW6 hs4 hs5 hmm
 rw [show s + 2 + 1 = s + 3 from rfl, show s + 4 + 1 = s + 5 from rfl]
 generalize s + 2 = gl at *
 generalize s + 3 = gF at *
 generalize s + 4 = gm at *
 generalize s + 5 = gM at *
 go_wp2
 go_loopw [19] (fun iv wr => ∃ (k : Nat) (hvv tvv lvv : Value) (es : List (Me Int Value)) (clk : Nat), k ≤ nf ∧ iv = .int .i64 (k : Int) ∧ Hid (Fac W2 wr nf gl gF gm gM (rowCol W2 gB nf 1) (rowCol W2 gB nf 2) bs k k k k hvv tvv lvv es clk)) (fun iv _ => nf - (intOf iv).toNat)
 case atStart => exact ⟨0, _, _, _, _, _, by omega, rfl, HFA⟩
 case round =>
  clear HFA
  obtain ⟨k, hvv, tvv, lvv, es, clk, hk, rfl, HFA⟩ := hrel
  by_cases hlt : k < nf
  ·have hltI : (k : Int) < (nf : Int) := by omega
   have hkb : k < bs.length := by rw [← HNF.out]; exact hlt
   obtain ⟨gs, hao, hc, lao, ll, lc, oao, ol, oc, y0, y1, y2, y3, hBD, hll, hbm⟩ := rowB_look HRB.out hkb
   have HFB := hid_of (HFU.out _ hbm).toBdOk
   have HTH := hid_of (rowCol_take W2 gB nf 1 k _ hlt y1)
   have HTL := hid_of (rowCol_take W2 gB nf 2 k _ hlt y2)
   have HTT := hid_of (topRow_take bs k hkb)
   have HBG : Hid (bs.getD k bd0 = bs.getD k bd0) := rfl
   have HBD := hid_of hBD
   have hkw := HFA.out.kept
   have z0 := hkw.cell y0 id
   have z1 := hkw.cell y1 id
   have z2 := hkw.cell y2 id
   have z3 := hkw.cell y3 id
   have hTA := fun W (hW : KF W2 W) => top_any W B2 gs (bs.getD k bd0).ss.length _ _ _ (bs.getD k bd0) (hBD.same hW) HFB.out
   have HCT := hid_of hTA
   generalize hgb : bs.getD k bd0 = b at *
   have HBG2 : Hid (bs.getD k bd0 = b) := hgb
   clear HBG hgb
   have HBG := HBG2
   clear HBG2
   generalize htb : topP b = tb at *
   clear htb
   generalize hbn : b.ss.length = bn at *
   clear hbn
   obtain ⟨a1, c1, hv1⟩ := ownsRow_shape HFA.out.hv
   obtain ⟨a2, c2, hv2⟩ := ownsRow_shape HFA.out.tv
   obtain ⟨a3, c3, hv3⟩ := ownsRow_shape HFA.out.lv
   obtain ⟨n2, hn2⟩ := nmd (((bs.map topP).take k).length)
   rw [← hn2] at hv2
   subst hv1 hv2 hv3
   clear hn2
   have hk2a : KF wr (wr.alloc (.cells #[.slice (some ⟨gs, 0, none⟩) bn bn, .slice hao bn hc, .slice lao ll lc, .slice oao ol oc] 77)) := (Kept.refl _ _).alloc _
   have hbxA := heap_alloc_new wr (.cells #[.slice (some ⟨gs, 0, none⟩) bn bn, .slice hao bn hc, .slice lao ll lc, .slice oao ol oc] 77)
   have HF2 := hid_of (HFA.out.same hk2a)
   have HBX2 := hid_of hbxA
   clear y0 y1 y2 y3 hBD hll hbm hkw hTA hkb hk2a hbxA HFA
   go_upto_region 6 with fail
   clear z0 z1 z2 z3
   generalize wr.alloc (.cells #[.slice (some ⟨gs, 0, none⟩) bn bn, .slice hao bn hc, .slice lao ll lc, .slice oao ol oc] 77) = w2 at *
   generalize wr.heap.size = gx at *
   have H2 := HF2.out
   have hbxA := HBX2.out
   obtain ⟨v1, w3, hr1, ho1, hk01, hk11, hnb1⟩ := push_val H2.hv (.slice hao bn hc) rfl H2.kept (by omega)
   obtain ⟨a1', c1', hv1⟩ := ownsRow_shape ho1
   obtain ⟨n1', hn1'⟩ := nmd (k + 1)
   rw [← hn1'] at hv1
   subst hv1
   clear hn1'
   have HR1 := hid_of hr1
   have hbx3 := box_kept hk11 H2.box (fun e => own_box2 H2.hv H2.box (by decide) e)
   have HF4 := hid_of (H2.stepH (v' := .slice a1' n1' c1') (by rw [HTH.out]; exact ho1) hk01 hk11 hnb1)
   have hbA3 := box_kept hk11 hbxA (fun e => own_box2 H2.hv hbxA (by decide) e)
   have HGX : Hid (¬ gx = gF) := fun e => by
    have h1 := H2.box
    rw [← e, hbxA] at h1
    cases h1
   have HBX4 := hid_of (box_kept (kept_set w3 gF 0 (.slice a1' n1' c1')) hbA3 (fun e => HGX.out e))
   have m0 := cell_block _ _ 0 _ _ _ H2.box
   have m1 := cell_block _ _ 1 _ _ _ hbxA
   have m2 := cell_block _ _ 0 _ _ _ hbx3
   have m3 := frozen_block _ _ 0 _ _ hbx3
   clear hr1 ho1 hk01 hk11 hnb1 hbx3 hbA3 H2 hbxA HBX2 HF2
   go_upto_region 7 with (at_builtin; refine wp_app2 rfl (.tmp 25) (.tmp 28) 29 29 rfl _ _ rfl rfl _ w3 HR1.out ?_)
   clear m0 m1 m2 m3 HR1 HTH
   generalize w3.setCell ⟨gF, 0, none⟩ (.slice a1' n1' c1') = w4 at *
   have HK4 := hid_of HF4.out.kept
   have HSM : Hid (∀ w', Kept (fun q => (Value.slice a2 n2 c2).ownBlock = some q ∨ q = gF) w4 w' → w'.cell? ⟨gx, 0, none⟩ = some (.slice (some ⟨gs, 0, none⟩) bn bn) ∧ w'.cell? ⟨gx, 1, none⟩ = some (.slice hao bn hc) ∧ w'.cell? ⟨gx, 2, none⟩ = some (.slice lao ll lc) ∧ w'.cell? ⟨gx, 3, none⟩ = some (.slice oao ol oc)) := fun w' hw => by
    have hne : ¬ ((Value.slice a2 n2 c2).ownBlock = some gx ∨ gx = gF) := fun e => by
     rcases e with e | e
     ·exact own_box2 HF4.out.tv HBX4.out (by decide) e
     ·exact HGX.out e
    exact ⟨hw.cell (cell_block _ _ 0 _ _ _ HBX4.out) hne, hw.cell (cell_block _ _ 1 _ _ _ HBX4.out) hne, hw.cell (cell_block _ _ 2 _ _ _ HBX4.out) hne, hw.cell (cell_block _ _ 3 _ _ _ HBX4.out) hne⟩
   have hKwd : KF w4 w4.drew := (Kept.refl _ _).drew
   refine wp_region_held_drew (S := fun w' => Kept (fun q => (Value.slice a2 n2 c2).ownBlock = some q ∨ q = gF) w4 w') (by kernel_rfl) ((Kept.refl _ _).drew) (fun hHeld => ?_)
   generalize w4.drew = wd at *
   iterate 1
    refine tkn (v := ?_) 0 rfl ?_ ?_; rotate_left 1
    ·intro w hSw; go_simp; try with_reducible rfl
    try simp only [Act.put, tdy]
   iterate 1
    refine tkn (v := ?_) 2 rfl ?_ ?_; rotate_left 1
    ·intro w hSw; obtain ⟨s0, s1, s2, s3⟩ := HSM.out w hSw; go_simp; try with_reducible rfl
    try simp only [Act.put, tdy]
   refine wpAnyH_ready (rs := [1, 3]) (by kernel_rfl) (by simp) ?_
   refine AllReadyH.cons rfl (fun K hK => ?_) (AllReadyH.cons rfl (fun K hK => ?_) AllReadyH.nil)
   ·have l1 := cell_block _ _ 1 _ _ _ (box_kept hKwd HF4.out.box id)
    go_simp
    refine hK.out _ _ hHeld (fun hHeld => ?_)
    clear hK K l1
    try simp only [Act.put, tdy]
    refine rdy 3 rfl (fun K hK => ?_)
    go_simp
    refine (HCT.out _ (HK4.out.trans hKwd)).mono ?_
    rintro e w5 ⟨rfl, hk5⟩
    have hk5s := hk5
    have hkw5 := HK4.out.trans (hKwd.trans hk5)
    have H5 := HF4.out.same (hKwd.trans hk5)
    obtain ⟨v2, w6, hr2, ho2, hk02, hk12, hnb2⟩ := push_num2 H5.tv tb H5.kept (by rw [List.length_take]; omega)
    obtain ⟨a2', c2', hv2⟩ := ownsRow_shape ho2
    obtain ⟨n2', hn2'⟩ := nmd (((bs.map topP).take k ++ [tb]).length)
    rw [← hn2'] at hv2
    subst hv2
    clear hn2'
    have HR2 := hid_of hr2
    have hkall : Kept (fun q => (Value.slice a2 n2 c2).ownBlock = some q ∨ q = gF) w4 w6 := ((hKwd.trans hk5).mono (fun _ _ f => f.elim)).trans (hk12.mono (fun _ _ e => .inl e))
    have HKS6 := hid_of hkall
    have HKS7 := hid_of (hkall.setCell (p := ⟨gF, 1, none⟩) (.inr (.inr rfl)) (.slice a2' n2' c2'))
    have hbx6 := box_kept hk12 H5.box (fun e => own_box2 H5.tv H5.box (by decide) e)
    have HG1 := hid_of (And.intro (cell_block _ _ 1 _ _ _ hbx6) (frozen_block _ _ 1 _ _ hbx6))
    have HF7 := hid_of (H5.stepT (v' := .slice a2' n2' c2') (by rw [HTT.out]; exact ho2) hk02 hk12 hnb2)
    have HBX7 := hid_of (box_kept (kept_set w6 gF 1 (.slice a2' n2' c2')) (box_kept hk12 (box_kept (hKwd.trans hk5) HBX4.out id) (fun e => own_box2 H5.tv (box_kept (hKwd.trans hk5) HBX4.out id) (by decide) e)) (fun e => HGX.out e))
    have HC5 := hid_of (H5.box)
    clear hr2 ho2 hk02 hk12 hnb2 hkall hbx6 H5 hkw5 hk5s
    refine hK.out _ _ ((hKwd.trans hk5).mono (fun _ _ f => f.elim)) (fun hHeld => ?_)
    clear hK K
    try simp only [Act.put, tdy]
    refine rdy 4 rfl (fun K hK => ?_)
    go_simp
    refine hK.out _ _ (hHeld.alloc _) (fun hHeld => ?_)
    clear hK K
    try simp only [Act.put, tdy]
    refine rdy 5 rfl (fun K hK => ?_)
    refine step_app rfl (.tmp 32) (.tmp 35) 30 30 rfl _ _ rfl rfl (.slice a2' n2' c2') w6 HR2.out ?_
    refine hK.out _ _ HKS6.out (fun hHeld => ?_)
    clear hK K
    try simp only [Act.put, tdy]
    iterate 1
     refine tkn (v := ?_) 6 rfl ?_ ?_; rotate_left 1
     ·intro w hSw; obtain ⟨s0, s1, s2, s3⟩ := HSM.out w hSw; go_simp; try with_reducible rfl
     try simp only [Act.put, tdy]
    obtain ⟨g1, gf1⟩ := HG1.out
    refine rdy 7 rfl (fun K hK => ?_)
    go_simp
    refine hK.out _ _ HKS7.out (fun hHeld => ?_)
    clear hK K
    try simp only [Act.put, tdy]
    refine wpAnyH_done (by kernel_rfl) ?_ _
    clear HSM HCT HR2 HKS6 HKS7 HG1 HC5 HK4 HF4 HBX4 hKwd hk5 hHeld HTT
    generalize w6.setCell ⟨gF, 1, none⟩ (.slice a2' n2' c2') = w7 at *
    have H7 := HF7.out
    obtain ⟨v3, w8, hr3, ho3, hk03, hk13, hnb3⟩ := push_val H7.lv (.slice lao ll lc) rfl H7.kept (by omega)
    obtain ⟨a3', c3', hv3⟩ := ownsRow_shape ho3
    obtain ⟨n3', hn3'⟩ := nmd (k + 1)
    rw [← hn3'] at hv3
    subst hv3
    have HR3 := hid_of hr3
    have hbx8 := box_kept hk13 H7.box (fun e => own_box2 H7.lv H7.box (by decide) e)
    have HF9 := hid_of (H7.stepL (v' := .slice a3' n3' c3') (by rw [HTL.out]; exact ho3) hk03 hk13 hnb3)
    have hb8 := box_kept hk13 HBX7.out (fun e => own_box2 H7.lv HBX7.out (by decide) e)
    have HBX9 := hid_of (box_kept (kept_set w8 gF 2 (.slice a3' n3' c3')) hb8 (fun e => HGX.out e))
    have m2 := cell_block _ _ 2 _ _ _ H7.box
    have m3 := cell_block _ _ 2 _ _ _ HBX7.out
    have m4 := cell_block _ _ 2 _ _ _ hbx8
    have m5 := frozen_block _ _ 2 _ _ hbx8
    clear hr3 ho3 hk03 hk13 hnb3 hbx8 hb8 H7 HF7 HBX7 hn3'
    go_upto_region 9 with (at_builtin; refine wp_app2 rfl (.tmp 39) (.tmp 42) 29 29 rfl _ _ rfl rfl _ w8 HR3.out ?_)
    clear m2 m3 m4 m5 HR3
    generalize w8.setCell ⟨gF, 2, none⟩ (.slice a3' n3' c3') = w9 at *
    have HNA := hid_of (fun W (hW : KF W2 W) => named_any W B2 gs bn _ _ _ b (HBD.out.same hW) HFB.out)
    have HSM : Hid (∀ w', Kept (fun q => q = gm) w9 w' → w'.cell? ⟨gM, 0, none⟩ = some (.map (some gm)) ∧ w'.cell? ⟨gx, 0, none⟩ = some (.slice (some ⟨gs, 0, none⟩) bn bn) ∧ w'.cell? ⟨gx, 1, none⟩ = some (.slice hao bn hc) ∧ w'.cell? ⟨gx, 2, none⟩ = some (.slice lao ll lc) ∧ w'.cell? ⟨gx, 3, none⟩ = some (.slice oao ol oc)) := fun w' hw => by
     have hne : ¬ gx = gm := fun e => by have h1 := HF9.out.mp; rw [← e, HBX9.out] at h1; cases h1
     have hne2 : ¬ gM = gm := fun e => by have h1 := HF9.out.mp; rw [← e, HF9.out.bm] at h1; cases h1
     exact ⟨hw.cell (cell_block _ _ 0 _ _ _ HF9.out.bm) hne2, hw.cell (cell_block _ _ 0 _ _ _ HBX9.out) hne, hw.cell (cell_block _ _ 1 _ _ _ HBX9.out) hne, hw.cell (cell_block _ _ 2 _ _ _ HBX9.out) hne, hw.cell (cell_block _ _ 3 _ _ _ HBX9.out) hne⟩
    have hKw9 : KF w9 w9.drew := (Kept.refl _ _).drew
    refine wp_region_held_drew (S := fun w' => Kept (fun q => q = gm) w9 w') (by kernel_rfl) ((Kept.refl _ _).drew) (fun hHeld => ?_)
    generalize w9.drew = wd9 at *
    iterate 3
     refine tkn (v := ?_) 0 rfl ?_ ?_; rotate_left 1
     ·intro w hSw; obtain ⟨s0, s1, s2, s3, s4⟩ := HSM.out w hSw; go_simp; try with_reducible rfl
     try simp only [Act.put, tdy]
    refine rdy 3 rfl (fun K hK => ?_)
    go_simp
    refine (HNA.out _ (HF9.out.kept.trans hKw9)).mono ?_
    rintro e w10 ⟨nv, rfl, hnv, hk10⟩
    have H10 := HF9.out.same (hKw9.trans hk10)
    obtain ⟨clk', hup⟩ := run_lay fitsL w10 gm clk es H10.mp (k : Int) nv
    rw [show cL.enc (k : Int) = .int .i64 (k : Int) from rfl, show cL.val nv = nv from rfl] at hup
    have HFN := hid_of (H10.stepM nv (by rw [HBG.out]; exact own_mono hnv (HF9.out.kept.trans hKw9).size) (fun q hq e => by have h1 := (HF9.out.tv.lt q hq).2; have h2 := (hnv.lt q e).1; have h3 := hKw9.size; omega) clk')
    obtain ⟨nao, nc, hnvs⟩ := ownsRow_shape hnv
    generalize (namedP b).length = nnl at hnvs
    subst hnvs
    have HUP := hid_of hup
    have hko := (hHeld.trans (hk10.mono (fun _ _ f => f.elim))).trans (kept_over w10 gm (.map ((lays es (k : Int) (.slice nao nnl nc) clk).map cL.ent).toArray clk'))
    clear hup H10 hnv
    refine hK.out _ _ (hHeld.trans (hk10.mono (fun _ _ f => f.elim))) (fun hHeld => ?_)
    clear hK K
    try simp only [Act.put, tdy]
    refine rdy 4 rfl (fun K hK => ?_)
    have hup := HUP.out
    go_simp
    refine hK.out _ _ hko (fun hHeld => ?_)
    clear hK K hup hko
    try simp only [Act.put, tdy]
    refine wpAnyH_done (by kernel_rfl) ?_ _
    clear HSM HNA hHeld hKw9 HUP hk10 HF9 HBX9
    go_wp2
    go_roundw
    case rel => exact ⟨k + 1, _, _, _, _, _, by omega, by go_num, HFN⟩
    case measure => simp [intOf]; omega
   ·go_simp
    refine (HCT.out _ (HK4.out.trans hKwd)).mono ?_
    rintro e w5 ⟨rfl, hk5⟩
    have hk5s := hk5
    have hkw5 := HK4.out.trans (hKwd.trans hk5)
    have H5 := HF4.out.same (hKwd.trans hk5)
    obtain ⟨v2, w6, hr2, ho2, hk02, hk12, hnb2⟩ := push_num2 H5.tv tb H5.kept (by rw [List.length_take]; omega)
    obtain ⟨a2', c2', hv2⟩ := ownsRow_shape ho2
    obtain ⟨n2', hn2'⟩ := nmd (((bs.map topP).take k ++ [tb]).length)
    rw [← hn2'] at hv2
    subst hv2
    clear hn2'
    have HR2 := hid_of hr2
    have hkall : Kept (fun q => (Value.slice a2 n2 c2).ownBlock = some q ∨ q = gF) w4 w6 := ((hKwd.trans hk5).mono (fun _ _ f => f.elim)).trans (hk12.mono (fun _ _ e => .inl e))
    have HKS6 := hid_of hkall
    have HKS7 := hid_of (hkall.setCell (p := ⟨gF, 1, none⟩) (.inr (.inr rfl)) (.slice a2' n2' c2'))
    have hbx6 := box_kept hk12 H5.box (fun e => own_box2 H5.tv H5.box (by decide) e)
    have HG1 := hid_of (And.intro (cell_block _ _ 1 _ _ _ hbx6) (frozen_block _ _ 1 _ _ hbx6))
    have HF7 := hid_of (H5.stepT (v' := .slice a2' n2' c2') (by rw [HTT.out]; exact ho2) hk02 hk12 hnb2)
    have HBX7 := hid_of (box_kept (kept_set w6 gF 1 (.slice a2' n2' c2')) (box_kept hk12 (box_kept (hKwd.trans hk5) HBX4.out id) (fun e => own_box2 H5.tv (box_kept (hKwd.trans hk5) HBX4.out id) (by decide) e)) (fun e => HGX.out e))
    have HC5 := hid_of (H5.box)
    clear hr2 ho2 hk02 hk12 hnb2 hkall hbx6 H5 hkw5 hk5s
    refine hK.out _ _ ((hKwd.trans hk5).mono (fun _ _ f => f.elim)) (fun hHeld => ?_)
    clear hK K
    try simp only [Act.put, tdy]
    refine wpAnyH_ready (rs := [1, 4]) (by kernel_rfl) (by simp) ?_
    refine AllReadyH.cons rfl (fun K hK => ?_) (AllReadyH.cons rfl (fun K hK => ?_) AllReadyH.nil)
    ·have l1 := cell_block _ _ 1 _ _ _ (HC5.out)
     go_simp
     refine hK.out _ _ hHeld (fun hHeld => ?_)
     clear hK K l1
     try simp only [Act.put, tdy]
     refine rdy 4 rfl (fun K hK => ?_)
     go_simp
     refine hK.out _ _ (hHeld.alloc _) (fun hHeld => ?_)
     clear hK K
     try simp only [Act.put, tdy]
     refine rdy 5 rfl (fun K hK => ?_)
     refine step_app rfl (.tmp 32) (.tmp 35) 30 30 rfl _ _ rfl rfl (.slice a2' n2' c2') w6 HR2.out ?_
     refine hK.out _ _ HKS6.out (fun hHeld => ?_)
     clear hK K
     try simp only [Act.put, tdy]
     iterate 1
      refine tkn (v := ?_) 6 rfl ?_ ?_; rotate_left 1
      ·intro w hSw; obtain ⟨s0, s1, s2, s3⟩ := HSM.out w hSw; go_simp; try with_reducible rfl
      try simp only [Act.put, tdy]
     obtain ⟨g1, gf1⟩ := HG1.out
     refine rdy 7 rfl (fun K hK => ?_)
     go_simp
     refine hK.out _ _ HKS7.out (fun hHeld => ?_)
     clear hK K
     try simp only [Act.put, tdy]
     refine wpAnyH_done (by kernel_rfl) ?_ _
     clear HSM HCT HR2 HKS6 HKS7 HG1 HC5 HK4 HF4 HBX4 hKwd hk5 hHeld HTT
     generalize w6.setCell ⟨gF, 1, none⟩ (.slice a2' n2' c2') = w7 at *
     have H7 := HF7.out
     obtain ⟨v3, w8, hr3, ho3, hk03, hk13, hnb3⟩ := push_val H7.lv (.slice lao ll lc) rfl H7.kept (by omega)
     obtain ⟨a3', c3', hv3⟩ := ownsRow_shape ho3
     obtain ⟨n3', hn3'⟩ := nmd (k + 1)
     rw [← hn3'] at hv3
     subst hv3
     have HR3 := hid_of hr3
     have hbx8 := box_kept hk13 H7.box (fun e => own_box2 H7.lv H7.box (by decide) e)
     have HF9 := hid_of (H7.stepL (v' := .slice a3' n3' c3') (by rw [HTL.out]; exact ho3) hk03 hk13 hnb3)
     have hb8 := box_kept hk13 HBX7.out (fun e => own_box2 H7.lv HBX7.out (by decide) e)
     have HBX9 := hid_of (box_kept (kept_set w8 gF 2 (.slice a3' n3' c3')) hb8 (fun e => HGX.out e))
     have m2 := cell_block _ _ 2 _ _ _ H7.box
     have m3 := cell_block _ _ 2 _ _ _ HBX7.out
     have m4 := cell_block _ _ 2 _ _ _ hbx8
     have m5 := frozen_block _ _ 2 _ _ hbx8
     clear hr3 ho3 hk03 hk13 hnb3 hbx8 hb8 H7 HF7 HBX7 hn3'
     go_upto_region 9 with (at_builtin; refine wp_app2 rfl (.tmp 39) (.tmp 42) 29 29 rfl _ _ rfl rfl _ w8 HR3.out ?_)
     clear m2 m3 m4 m5 HR3
     generalize w8.setCell ⟨gF, 2, none⟩ (.slice a3' n3' c3') = w9 at *
     have HNA := hid_of (fun W (hW : KF W2 W) => named_any W B2 gs bn _ _ _ b (HBD.out.same hW) HFB.out)
     have HSM : Hid (∀ w', Kept (fun q => q = gm) w9 w' → w'.cell? ⟨gM, 0, none⟩ = some (.map (some gm)) ∧ w'.cell? ⟨gx, 0, none⟩ = some (.slice (some ⟨gs, 0, none⟩) bn bn) ∧ w'.cell? ⟨gx, 1, none⟩ = some (.slice hao bn hc) ∧ w'.cell? ⟨gx, 2, none⟩ = some (.slice lao ll lc) ∧ w'.cell? ⟨gx, 3, none⟩ = some (.slice oao ol oc)) := fun w' hw => by
      have hne : ¬ gx = gm := fun e => by have h1 := HF9.out.mp; rw [← e, HBX9.out] at h1; cases h1
      have hne2 : ¬ gM = gm := fun e => by have h1 := HF9.out.mp; rw [← e, HF9.out.bm] at h1; cases h1
      exact ⟨hw.cell (cell_block _ _ 0 _ _ _ HF9.out.bm) hne2, hw.cell (cell_block _ _ 0 _ _ _ HBX9.out) hne, hw.cell (cell_block _ _ 1 _ _ _ HBX9.out) hne, hw.cell (cell_block _ _ 2 _ _ _ HBX9.out) hne, hw.cell (cell_block _ _ 3 _ _ _ HBX9.out) hne⟩
     have hKw9 : KF w9 w9.drew := (Kept.refl _ _).drew
     refine wp_region_held_drew (S := fun w' => Kept (fun q => q = gm) w9 w') (by kernel_rfl) ((Kept.refl _ _).drew) (fun hHeld => ?_)
     generalize w9.drew = wd9 at *
     iterate 3
      refine tkn (v := ?_) 0 rfl ?_ ?_; rotate_left 1
      ·intro w hSw; obtain ⟨s0, s1, s2, s3, s4⟩ := HSM.out w hSw; go_simp; try with_reducible rfl
      try simp only [Act.put, tdy]
     refine rdy 3 rfl (fun K hK => ?_)
     go_simp
     refine (HNA.out _ (HF9.out.kept.trans hKw9)).mono ?_
     rintro e w10 ⟨nv, rfl, hnv, hk10⟩
     have H10 := HF9.out.same (hKw9.trans hk10)
     obtain ⟨clk', hup⟩ := run_lay fitsL w10 gm clk es H10.mp (k : Int) nv
     rw [show cL.enc (k : Int) = .int .i64 (k : Int) from rfl, show cL.val nv = nv from rfl] at hup
     have HFN := hid_of (H10.stepM nv (by rw [HBG.out]; exact own_mono hnv (HF9.out.kept.trans hKw9).size) (fun q hq e => by have h1 := (HF9.out.tv.lt q hq).2; have h2 := (hnv.lt q e).1; have h3 := hKw9.size; omega) clk')
     obtain ⟨nao, nc, hnvs⟩ := ownsRow_shape hnv
     generalize (namedP b).length = nnl at hnvs
     subst hnvs
     have HUP := hid_of hup
     have hko := (hHeld.trans (hk10.mono (fun _ _ f => f.elim))).trans (kept_over w10 gm (.map ((lays es (k : Int) (.slice nao nnl nc) clk).map cL.ent).toArray clk'))
     clear hup H10 hnv
     refine hK.out _ _ (hHeld.trans (hk10.mono (fun _ _ f => f.elim))) (fun hHeld => ?_)
     clear hK K
     try simp only [Act.put, tdy]
     refine rdy 4 rfl (fun K hK => ?_)
     have hup := HUP.out
     go_simp
     refine hK.out _ _ hko (fun hHeld => ?_)
     clear hK K hup hko
     try simp only [Act.put, tdy]
     refine wpAnyH_done (by kernel_rfl) ?_ _
     clear HSM HNA hHeld hKw9 HUP hk10 HF9 HBX9
     go_wp2
     go_roundw
     case rel => exact ⟨k + 1, _, _, _, _, _, by omega, by go_num, HFN⟩
     case measure => simp [intOf]; omega
    ·go_simp
     refine hK.out _ _ (hHeld.alloc _) (fun hHeld => ?_)
     clear hK K
     try simp only [Act.put, tdy]
     refine rdy 1 rfl (fun K hK => ?_)
     have l1 := cell_block _ _ 1 _ _ _ (box_kept ((Kept.refl (fun _ => False) w5).alloc (.cells #[.int .i64 tb] 3)) HC5.out id)
     go_simp
     refine hK.out _ _ hHeld (fun hHeld => ?_)
     clear hK K l1
     try simp only [Act.put, tdy]
     refine rdy 5 rfl (fun K hK => ?_)
     refine step_app rfl (.tmp 32) (.tmp 35) 30 30 rfl _ _ rfl rfl (.slice a2' n2' c2') w6 HR2.out ?_
     refine hK.out _ _ HKS6.out (fun hHeld => ?_)
     clear hK K
     try simp only [Act.put, tdy]
     iterate 1
      refine tkn (v := ?_) 6 rfl ?_ ?_; rotate_left 1
      ·intro w hSw; obtain ⟨s0, s1, s2, s3⟩ := HSM.out w hSw; go_simp; try with_reducible rfl
      try simp only [Act.put, tdy]
     obtain ⟨g1, gf1⟩ := HG1.out
     refine rdy 7 rfl (fun K hK => ?_)
     go_simp
     refine hK.out _ _ HKS7.out (fun hHeld => ?_)
     clear hK K
     try simp only [Act.put, tdy]
     refine wpAnyH_done (by kernel_rfl) ?_ _
     clear HSM HCT HR2 HKS6 HKS7 HG1 HC5 HK4 HF4 HBX4 hKwd hk5 hHeld HTT
     generalize w6.setCell ⟨gF, 1, none⟩ (.slice a2' n2' c2') = w7 at *
     have H7 := HF7.out
     obtain ⟨v3, w8, hr3, ho3, hk03, hk13, hnb3⟩ := push_val H7.lv (.slice lao ll lc) rfl H7.kept (by omega)
     obtain ⟨a3', c3', hv3⟩ := ownsRow_shape ho3
     obtain ⟨n3', hn3'⟩ := nmd (k + 1)
     rw [← hn3'] at hv3
     subst hv3
     have HR3 := hid_of hr3
     have hbx8 := box_kept hk13 H7.box (fun e => own_box2 H7.lv H7.box (by decide) e)
     have HF9 := hid_of (H7.stepL (v' := .slice a3' n3' c3') (by rw [HTL.out]; exact ho3) hk03 hk13 hnb3)
     have hb8 := box_kept hk13 HBX7.out (fun e => own_box2 H7.lv HBX7.out (by decide) e)
     have HBX9 := hid_of (box_kept (kept_set w8 gF 2 (.slice a3' n3' c3')) hb8 (fun e => HGX.out e))
     have m2 := cell_block _ _ 2 _ _ _ H7.box
     have m3 := cell_block _ _ 2 _ _ _ HBX7.out
     have m4 := cell_block _ _ 2 _ _ _ hbx8
     have m5 := frozen_block _ _ 2 _ _ hbx8
     clear hr3 ho3 hk03 hk13 hnb3 hbx8 hb8 H7 HF7 HBX7 hn3'
     go_upto_region 9 with (at_builtin; refine wp_app2 rfl (.tmp 39) (.tmp 42) 29 29 rfl _ _ rfl rfl _ w8 HR3.out ?_)
     clear m2 m3 m4 m5 HR3
     generalize w8.setCell ⟨gF, 2, none⟩ (.slice a3' n3' c3') = w9 at *
     have HNA := hid_of (fun W (hW : KF W2 W) => named_any W B2 gs bn _ _ _ b (HBD.out.same hW) HFB.out)
     have HSM : Hid (∀ w', Kept (fun q => q = gm) w9 w' → w'.cell? ⟨gM, 0, none⟩ = some (.map (some gm)) ∧ w'.cell? ⟨gx, 0, none⟩ = some (.slice (some ⟨gs, 0, none⟩) bn bn) ∧ w'.cell? ⟨gx, 1, none⟩ = some (.slice hao bn hc) ∧ w'.cell? ⟨gx, 2, none⟩ = some (.slice lao ll lc) ∧ w'.cell? ⟨gx, 3, none⟩ = some (.slice oao ol oc)) := fun w' hw => by
      have hne : ¬ gx = gm := fun e => by have h1 := HF9.out.mp; rw [← e, HBX9.out] at h1; cases h1
      have hne2 : ¬ gM = gm := fun e => by have h1 := HF9.out.mp; rw [← e, HF9.out.bm] at h1; cases h1
      exact ⟨hw.cell (cell_block _ _ 0 _ _ _ HF9.out.bm) hne2, hw.cell (cell_block _ _ 0 _ _ _ HBX9.out) hne, hw.cell (cell_block _ _ 1 _ _ _ HBX9.out) hne, hw.cell (cell_block _ _ 2 _ _ _ HBX9.out) hne, hw.cell (cell_block _ _ 3 _ _ _ HBX9.out) hne⟩
     have hKw9 : KF w9 w9.drew := (Kept.refl _ _).drew
     refine wp_region_held_drew (S := fun w' => Kept (fun q => q = gm) w9 w') (by kernel_rfl) ((Kept.refl _ _).drew) (fun hHeld => ?_)
     generalize w9.drew = wd9 at *
     iterate 3
      refine tkn (v := ?_) 0 rfl ?_ ?_; rotate_left 1
      ·intro w hSw; obtain ⟨s0, s1, s2, s3, s4⟩ := HSM.out w hSw; go_simp; try with_reducible rfl
      try simp only [Act.put, tdy]
     refine rdy 3 rfl (fun K hK => ?_)
     go_simp
     refine (HNA.out _ (HF9.out.kept.trans hKw9)).mono ?_
     rintro e w10 ⟨nv, rfl, hnv, hk10⟩
     have H10 := HF9.out.same (hKw9.trans hk10)
     obtain ⟨clk', hup⟩ := run_lay fitsL w10 gm clk es H10.mp (k : Int) nv
     rw [show cL.enc (k : Int) = .int .i64 (k : Int) from rfl, show cL.val nv = nv from rfl] at hup
     have HFN := hid_of (H10.stepM nv (by rw [HBG.out]; exact own_mono hnv (HF9.out.kept.trans hKw9).size) (fun q hq e => by have h1 := (HF9.out.tv.lt q hq).2; have h2 := (hnv.lt q e).1; have h3 := hKw9.size; omega) clk')
     obtain ⟨nao, nc, hnvs⟩ := ownsRow_shape hnv
     generalize (namedP b).length = nnl at hnvs
     subst hnvs
     have HUP := hid_of hup
     have hko := (hHeld.trans (hk10.mono (fun _ _ f => f.elim))).trans (kept_over w10 gm (.map ((lays es (k : Int) (.slice nao nnl nc) clk).map cL.ent).toArray clk'))
     clear hup H10 hnv
     refine hK.out _ _ (hHeld.trans (hk10.mono (fun _ _ f => f.elim))) (fun hHeld => ?_)
     clear hK K
     try simp only [Act.put, tdy]
     refine rdy 4 rfl (fun K hK => ?_)
     have hup := HUP.out
     go_simp
     refine hK.out _ _ hko (fun hHeld => ?_)
     clear hK K hup hko
     try simp only [Act.put, tdy]
     refine wpAnyH_done (by kernel_rfl) ?_ _
     clear HSM HNA hHeld hKw9 HUP hk10 HF9 HBX9
     go_wp2
     go_roundw
     case rel => exact ⟨k + 1, _, _, _, _, _, by omega, by go_num, HFN⟩
     case measure => simp [intOf]; omega
  ·have e : k = nf := by omega
   subst e
   have HFA1 := HFA
   have HTO : Hid (Calls Tryz.prog 62 #[.int .i64 (k : Int), .func (.func 66) #[] #[.pointer (some ⟨gM, 0, none⟩)]] wr (TourR wr k (.func (.func 66) #[] #[.pointer (some ⟨gM, 0, none⟩)]) (leadP bs) (fun _ => True))) := by
    refine tour_66 wr k _ (leadP bs) (by omega) (by omega) (fun _ => True) trivial (fun j hj _ => ?_) (fun j hj W1 hW1 => ?_)
    ·have hjb : j < bs.length := by rw [← HNF.out]; exact hj
     have hm : bs.getD j bd0 ∈ bs := by simp [List.getD, List.getElem?_eq_getElem hjb]
     have := named_rng (HFU.out _ hm)
     exact ⟨this.1, fun m hm => ⟨(this.2 m hm).1, (this.2 m hm).2, trivial⟩⟩
    ·obtain ⟨nv, h1, h2, _⟩ := HFA.out.nm j hj
     refine (next66 gM gm j clk es nv W1 (box_kept hW1 HFA.out.bm id) (obj_kept hW1 HFA.out.mp id) h1).mono ?_
     rintro e2 w' ⟨rfl, rfl⟩
     exact ⟨⟨nv, rfl, own_mono h2 (Nat.zero_le _)⟩, rfl⟩
   clear HFA1
   go_wp2_with fail
   refine HTO.out.mono ?_
   rintro e w1 ⟨ta, gt, ct, ga, ca, vo, vr, rfl, hTI, hTr⟩
   obtain ⟨σ, hσ⟩ := nmd (tourP (leadP bs) k)
   rw [← hσ] at hTI hTr
   have HFX : Hid (factsP p bs = ⟨bs.map BD.hs, bs.map topP, bs.map BD.loops, liveP σ.order k, if true ∈ σ.again then -1 else cellsOfP p bs σ.order, if true ∈ σ.again then -1 else costOfP bs σ.order⟩) := by unfold Hid factsP; rw [← HNF.out, ← hσ]
   obtain ⟨rao, rc, hvr⟩ := ownsRow_shape hTr.od
   obtain ⟨mo, hmo⟩ := nmd (σ.order.length)
   rw [← hmo] at hvr
   subst hvr
   have hmo4 : mo ≤ k := by have := hTI.cnt; omega
   have HMO := hid_of hmo
   have HTI := hid_of hTI
   have HTR := hid_of hTr
   have HF1 := hid_of (HFA.out.same hTr.kept)
   have HGLW : Hid (gl < wr.heap.size) := (HFA.out.li.lt gl rfl).2
   have q4 := cell_block _ _ 4 _ _ _ hTr.box
   have HL0 : Hid (w1.ownsRow W2.heap.size 4 1 (.slice (some ⟨gl, 0, none⟩) k k) k (bools ((σ.order.take 0).foldl (fun l m => l.set m.toNat true) (List.replicate k false)))) := HF1.out.li
   have HK0 := hid_of (Kept.refl (fun q => q = gl) w1)
   clear hTI hTr hσ hmo HTO HFA
   go_wp2
   clear q4
   go_loopw [59] (fun iv wl => ∃ (j : Nat), j ≤ mo ∧ iv = .int .i64 (j : Int) ∧ Hid (wl.ownsRow W2.heap.size 4 1 (.slice (some ⟨gl, 0, none⟩) k k) k (bools ((σ.order.take j).foldl (fun l m => l.set m.toNat true) (List.replicate k false)))) ∧ Hid (Kept (fun q => q = gl) w1 wl)) (fun iv _ => mo - (intOf iv).toNat)
   case atStart => exact ⟨0, by omega, rfl, HL0, HK0⟩
   case round =>
    clear HL0 HK0
    obtain ⟨j, hj, rfl, HL, HK⟩ := hrel
    by_cases hjm : j < mo
    ·have hjI : (j : Int) < (mo : Int) := by omega
     have hjl : j < σ.order.length := by rw [← HMO.out]; exact hjm
     obtain ⟨hm0, hm1, _⟩ := HTI.out.od _ (getD_mem hjl)
     obtain ⟨q, hq⟩ : ∃ q : Nat, σ.order.getD j 0 = (q : Int) := ⟨(σ.order.getD j 0).toNat, by omega⟩
     have hqI : (q : Int) < (k : Int) := by omega
     have hqk : q < k := by omega
     obtain ⟨go, co, e1, hco⟩ := own_look (HK.out.ownsRow HTR.out.od (fun x hx e => own_two HF1.out.li HTR.out.od (by decide) x (by rw [e]; rfl) hx)) hjl
     simp only [Value.slice.injEq] at e1
     obtain ⟨rfl, hx8, rfl⟩ := e1
     clear hx8
     rw [hq] at hco
     have b3 := cell_block _ _ 3 _ _ _ (box_kept HK.out HF1.out.box (fun e => own_box2 HF1.out.li HF1.out.box (by decide) (by rw [e]; rfl)))
     have HTK : Hid ((σ.order.take (j + 1)).foldl (fun l m => l.set m.toNat true) (List.replicate k false) = ((σ.order.take j).foldl (fun l m => l.set m.toNat true) (List.replicate k false)).set q true) := by
      unfold Hid
      rw [List.take_add_one, List.getElem?_eq_getElem hjl, List.foldl_append]
      have : σ.order[j] = (q : Int) := by rw [← hq]; simp [List.getD, List.getElem?_eq_getElem hjl]
      rw [this]
      rfl
     have hll : ((σ.order.take j).foldl (fun l m => l.set m.toNat true) (List.replicate k false)).length = k := by have := HL.out.1; simpa [bools] using this
     have hlc := HL.out.cells rfl q (.bool (((σ.order.take j).foldl (fun l m => l.set m.toNat true) (List.replicate k false)).getD q false)) (by simp [bools, List.getD, List.getElem?_eq_getElem (show q < _ by rw [hll]; exact hqk)])
     rw [Addr.add_lit, Nat.zero_add] at hlc
     have hlf := World.ownsRow.frozenAt HL.out q
     have HLN : Hid ((wr.setCell ⟨gl, q, none⟩ (.bool true)).ownsRow W2.heap.size 4 1 (.slice (some ⟨gl, 0, none⟩) k k) k (bools ((σ.order.take (j + 1)).foldl (fun l m => l.set m.toNat true) (List.replicate k false)))) := by
      unfold Hid
      rw [HTK.out]
      exact own_putL HL.out q true
     have HKN := hid_of (HK.out.trans (kept_set wr gl q (.bool true)))
     generalize ((σ.order.take j).foldl (fun l m => l.set m.toNat true) (List.replicate k false)).getD q false = bz at *
     clear hq hm0 hm1 hjl HTK hll
     go_wp2
     go_roundw
     case rel => exact ⟨j + 1, by omega, by go_num, HLN, HKN⟩
     case measure => simp [intOf]; omega
    ·have e : j = mo := by omega
     subst e
     have HLV : Hid (wr.ownsRow W2.heap.size 4 1 (.slice (some ⟨gl, 0, none⟩) k k) k (bools (liveP σ.order k))) := by
      have := HL.out
      rw [List.take_of_length_le (by rw [← HMO.out]; omega)] at this
      exact this
     clear HL
     have hKgl := HK.out
     have hbF := box_kept hKgl HF1.out.box (fun e => own_box2 HF1.out.li HF1.out.box (by decide) (by rw [e]; rfl))
     obtain ⟨⟨c0, c1, c2, c3, c4, c5⟩, f0, f1, f2, f3, f4, f5⟩ := look6 hbF
     have hbA := set_block _ _ 5 _ _ _ (set_block _ _ 4 _ _ _ hbF (.int .i64 (-1))) (.int .i64 (-1))
     have hkS := (kept_set wr gF 4 (.int .i64 (-1))).trans (kept_set (wr.setCell ⟨gF, 4, none⟩ (.int .i64 (-1))) gF 5 (.int .i64 (-1)))
     have hkA := hKgl.trans' hkS
     have HRH := hid_of (hkA.ownsRow HF1.out.hv (fun q hq e => by
      rcases e with e | e
      ·exact own_two HF1.out.hv HF1.out.li (by decide) q hq (by rw [e]; rfl)
      ·exact own_box2 HF1.out.hv HF1.out.box (by decide) (by rw [hq, e])))
     have HRT := hid_of (hkA.ownsRow HF1.out.tv (fun q hq e => by
      rcases e with e | e
      ·exact own_two HF1.out.tv HF1.out.li (by decide) q hq (by rw [e]; rfl)
      ·exact own_box2 HF1.out.tv HF1.out.box (by decide) (by rw [hq, e])))
     have HRL := hid_of (hkA.ownsRow HF1.out.lv (fun q hq e => by
      rcases e with e | e
      ·exact own_two HF1.out.lv HF1.out.li (by decide) q hq (by rw [e]; rfl)
      ·exact own_box2 HF1.out.lv HF1.out.box (by decide) (by rw [hq, e])))
     have HRV := hid_of (hkS.ownsRow HLV.out (fun q hq e => own_box2 HLV.out hbF (by decide) (by rw [hq, e])))
     have HRO := hid_of (hkA.ownsRow HTR.out.od (fun q hq e => by
      rcases e with e | e
      ·exact own_two HTR.out.od HF1.out.li (by decide) q hq (by rw [e]; rfl)
      ·exact own_box2 HTR.out.od HF1.out.box (by decide) (by rw [hq, e])))
     have hra := hkA.ownsRow HTR.out.ag (fun q hq e => by
      have h1 := (HTR.out.ag.lt q hq).1
      have h2 := HGLW.out
      rcases e with e | e
      ·omega
      ·exact own_box2 HTR.out.ag HF1.out.box (by decide) (by rw [hq, e]))
     have hbT := box_kept hkA HTR.out.box (fun e => by
      rcases e with e | e
      ·exact own_box2 HF1.out.li HTR.out.box (by decide) (by rw [e]; rfl)
      ·have h1 := HF1.out.box
       rw [← e, HTR.out.box] at h1
       cases h1)
     have HKW := hid_of (HF1.out.kept.step hkA (fun i hi e => by
      have h1 := (HF1.out.li.lt gl rfl).1
      have h2 := HF1.out.lo.1
      omega))
     have q5 := cell_block _ _ 5 _ _ _ hbT
     have HBA := hid_of hbA
     have HBT := hid_of hbT
     have HCB := hid_of (containsB_any (some ⟨ga, 0, none⟩) ca k σ.again _ _ hra HTI.out.al (by omega))
     have hlo := HF1.out.lo.1
     have hsz := HSZ.out
     clear hKgl hbF hbA hkS hkA hra hbT HF1 HTR HK HLV
     go_upto_region 18 with fail
     clear c0 c1 c2 c3 c4 c5 f0 f1 f2 f3 f4 f5
     generalize (wr.setCell ⟨gF, 4, none⟩ (.int .i64 (-1))).setCell ⟨gF, 5, none⟩ (.int .i64 (-1)) = wA at *
     have HEND : Hid (∀ (wZ : World) (c1 c2 : Int), Kept (fun q => q = gF) wA wZ → wZ.heap[gF]? = some (.cells #[hvv, tvv, lvv, .slice (some ⟨gl, 0, none⟩) k k, .int .i64 c1, .int .i64 c2] 33 (0, 0)) → (factsP p bs).cells = c1 → (factsP p bs).cost = c2 → ∀ wF, Kept (fun q => q = s + 1) wZ wF → FactsAt wF w.heap.size k (.agg #[hvv, tvv, lvv, .slice (some ⟨gl, 0, none⟩) k k, .int .i64 c1, .int .i64 c2]) (factsP p bs) ∧ KF w wF) := by
      intro wZ q1 q2 hkZ hbZ e1 e2 wF hkF
      have hk2 := hkZ.trans' hkF
      have hss := HS.out
      have hbR := box_kept HKW.out HB2.out id
      have hrow : ∀ {e t n : Nat} {v : Value} {xs : List Value}, wA.ownsRow W2.heap.size e t v n xs → e ≠ 33 → wF.ownsRow w.heap.size e t v n xs := fun hr he => own_mono (hk2.ownsRow hr (fun q hq e => by
       have h1 := (hr.lt q hq).1
       rcases e with e | e
       ·exact own_box2 hr HBA.out (Ne.symm he) (by rw [hq, e])
       ·omega)) HK2.out.size
      have hin : ∀ {v : Value} {l : List Int}, OwnN W2 B2 v l → OwnN wF 0 v l := fun hr => own_mono (hk2.ownsRow (HKW.out.ownsRow hr (fun _ _ f => f)) (fun q hq e => by
       rcases e with e | e
       ·exact own_box2 (HKW.out.ownsRow hr (fun _ _ f => f)) HBA.out (by decide) (by rw [hq, e])
       ·exact own_box2 (HKW.out.ownsRow hr (fun _ _ f => f)) hbR (by decide) (by rw [hq, e]))) (Nat.zero_le _)
      have hcl : ∀ c, (rowCol W2 gB k c).length = k := fun c => by simp [rowCol]
      refine ⟨⟨_, _, _, gl, rowCol W2 gB k 1, rowCol W2 gB k 2, by rw [e1, e2], ?_, ?_, ?_, ?_, ?_, ?_⟩, ?_⟩
      ·have := hrow HRH.out (by decide)
       rwa [List.take_of_length_le (by rw [hcl]; omega)] at this
      ·rw [HFX.out]
       intro i l hl
       rw [List.getElem?_map] at hl
       obtain ⟨b, hb, rfl⟩ := Option.map_eq_some_iff.1 hl
       obtain ⟨gs, hv, lv, ov, h1, h2⟩ := HRB.out i b hb
       have hi : i < k := by rw [HNF.out]; exact (List.getElem?_eq_some_iff.1 hb).1
       have hc : W2.cell? ⟨gB, i * 4 + 1, none⟩ = some hv := h1 1 _ rfl
       exact ⟨hv, by simp [rowCol, hi, hc], hin h2.hs⟩
      ·have := hrow HRT.out (by decide)
       rw [HFX.out]
       rwa [List.take_of_length_le (by rw [List.length_map, ← HNF.out]; omega)] at this
      ·have := hrow HRL.out (by decide)
       rwa [List.take_of_length_le (by rw [hcl]; omega)] at this
      ·rw [HFX.out]
       intro i l hl
       rw [List.getElem?_map] at hl
       obtain ⟨b, hb, rfl⟩ := Option.map_eq_some_iff.1 hl
       obtain ⟨gs, hv, lv, ov, h1, h2⟩ := HRB.out i b hb
       have hi : i < k := by rw [HNF.out]; exact (List.getElem?_eq_some_iff.1 hb).1
       have hc : W2.cell? ⟨gB, i * 4 + 2, none⟩ = some lv := h1 2 _ rfl
       exact ⟨lv, by simp [rowCol, hi, hc], hin h2.lo⟩
      ·rw [HFX.out]
       exact hrow HRV.out (by decide)
      ·exact (HK2.out.trans HKW.out).step hk2 (fun i hi e => by omega)
     obtain ⟨a1, n1, hv1⟩ := ownsRow_shape HRH.out
     obtain ⟨a2, n2, hv2⟩ := ownsRow_shape HRT.out
     obtain ⟨a3, n3, hv3⟩ := ownsRow_shape HRL.out
     generalize ((bs.map topP).take k).length = l2 at hv2
     subst hv1 hv2 hv3
     have HBR := hid_of (box_kept HKW.out HB2.out id)
     by_cases hag : true ∈ σ.again
     ·rw [decide_eq_true hag] at HCB
      go_wp2_with fail
      refine HCB.out.mono ?_
      rintro e w5 ⟨rfl, hw5⟩
      have hw5 := hw5.symm
      subst hw5
      have hbR := box_kept (Kept.refl (fun q => q = gF) wA) HBR.out (fun (e : s + 1 = gF) => by omega)
      obtain ⟨hx, hkx⟩ := set6 wA (s + 1) 33 _ _ _ _ _ _ (.slice a1 k n1) (.slice a2 l2 n2) (.slice a3 k n3) (.slice (some ⟨gl, 0, none⟩) k k) (.int .i64 (-1)) (.int .i64 (-1)) hbR
      obtain ⟨hfa, hkf⟩ := HEND.out wA (-1) (-1) (Kept.refl (fun q => q = gF) wA) HBA.out (by rw [HFX.out]; exact if_pos hag) (by rw [HFX.out]; exact if_pos hag) _ hkx
      obtain ⟨⟨d0, d1, d2, d3, d4, d5⟩, f0, f1, f2, f3, f4, f5⟩ := look6 hbR
      obtain ⟨⟨r0, r1, r2, r3, r4, r5⟩, _⟩ := look6 (HBA.out)
      have HX := hid_of hx
      have HFA := hid_of hfa
      have HKF := hid_of hkf
      clear hbR hx hkx hfa hkf HEND HBR
      go_wp2
      refine bodyPost_ret (v := .agg #[.slice a1 k n1, .slice a2 l2 n2, .slice a3 k n3, .slice (some ⟨gl, 0, none⟩) k k, .int .i64 (-1), .int .i64 (-1)]) ?_ rfl ⟨HKF.out, _, rfl, HFA.out⟩
      exact results_cell_row (by rfl) _ _ (s + 1) 33 _ (0, 0) _ (by rfl) HX.out Tryz.underlying33 rfl size33
     ·rw [decide_eq_false hag] at HCB
      have HAG := hid_of hag
      have HCO : Hid (∀ W, KF wA W → Calls Tryz.prog 68 #[.agg #[.int .i64 mem, .slice dao nd dc, .slice fao k fc], .slice (some ⟨gB, 0, none⟩) k cB, .slice rao j rc] W fun e w' => e = .returned (.int .i64 (cellsOfP p bs σ.order)) ∧ KF W w') := fun W hW => by
       have h1 := cellsOf_any (.agg #[.int .i64 mem, .slice dao nd dc, .slice fao k fc]) p W B (HPG.out.kept ((HK2.out.trans HKW.out).trans hW) (fun _ _ f => f)) (Nat.le_trans HGL.out.1 (Nat.le_trans (HK2.out.trans HKW.out).size hW.size)) bs B2 gB cB (HRB.out.same (HKW.out.trans hW)) (Nat.lt_of_lt_of_le HGL.out.2 (Nat.le_trans (HK2.out.trans HKW.out).size hW.size)) HLEN.out (by rw [← HNF.out]; omega) (by rw [← HNF.out]; exact HFU.out) (.slice rao j rc) σ.order _ (hW.ownsRow HRO.out (fun _ _ f => f)) (by rw [← HNF.out, ← HMO.out]; omega) (by rw [← HNF.out]; exact fun m hm => ⟨(HTI.out.od m hm).1, (HTI.out.od m hm).2.1⟩)
       rw [← HNF.out] at h1
       exact h1
      have HSM : Hid (∀ w', Kept (fun q => q = gF) wA w' → w'.cell? ⟨s, 0, none⟩ = some (.int .i64 mem) ∧ w'.cell? ⟨s, 1, none⟩ = some (.slice dao nd dc) ∧ w'.cell? ⟨s, 2, none⟩ = some (.slice fao k fc) ∧ w'.cell? ⟨ta, 4, none⟩ = some (.slice rao j rc)) := fun w' hw => by
       have hne : ¬ s = gF := by omega
       have hne2 : ¬ ta = gF := fun e => by
        have h1 := HBA.out
        rw [← e, HBT.out] at h1
        cases h1
       have hb1 := box_kept HKW.out HB1.out id
       exact ⟨hw.cell (cell_block _ _ 0 _ _ _ hb1) hne, hw.cell (cell_block _ _ 1 _ _ _ hb1) hne, hw.cell (cell_block _ _ 2 _ _ _ hb1) hne, hw.cell (cell_block _ _ 4 _ _ _ HBT.out) hne2⟩
      clear hag
      go_wp2_with fail
      refine HCB.out.mono ?_
      rintro e w5 ⟨rfl, hw5⟩
      have hw5 := hw5.symm
      subst hw5
      clear HCB q5
      go_upto_region 19 with fail
      obtain ⟨cp, hcp⟩ := nmd (cellsOfP p bs σ.order)
      rw [← hcp] at HCO
      have HCP := hid_of hcp
      clear hcp
      have hKwd : KF wA wA.drew := (Kept.refl _ _).drew
      refine wp_region_held_drew (S := fun w' => Kept (fun q => q = gF) wA w') (by kernel_rfl) ((Kept.refl _ _).drew) (fun hHeld => ?_)
      generalize wA.drew = wd at *
      iterate 6
       refine tkn (v := ?_) 0 rfl ?_ ?_; rotate_left 1
       ·intro w hSw; obtain ⟨s0, s1, s2, s3⟩ := HSM.out w hSw; go_simp; try with_reducible rfl
       try simp only [Act.put, tdy]
      refine rdy 6 rfl (fun K hK => ?_)
      go_simp
      refine (HCO.out _ hKwd).mono ?_
      rintro e w6 ⟨rfl, hk6⟩
      have hb6 := box_kept (hKwd.trans hk6) HBA.out id
      have t4 := cell_block _ _ 4 _ _ _ hb6
      have tf := frozen_block _ _ 4 _ _ hb6
      refine hK.out _ _ ((hKwd.trans hk6).mono (fun _ _ f => f.elim)) (fun hHeld => ?_)
      clear hK K
      try simp only [Act.put, tdy]
      iterate 1
       refine tkn (v := ?_) 7 rfl ?_ ?_; rotate_left 1
       ·intro w hSw; go_simp; try with_reducible rfl
       try simp only [Act.put, tdy]
      refine rdy 8 rfl (fun K hK => ?_)
      go_simp
      refine hK.out _ _ (hHeld.setCell (.inr rfl) _) (fun hHeld => ?_)
      clear hK K
      try simp only [Act.put, tdy]
      clear t4 tf
      refine wpAnyH_done (by kernel_rfl) ?_ _
      have HBB := hid_of (set_block _ _ 4 _ _ _ hb6 (.int .i64 cp))
      have HKB := hid_of (((hKwd.trans hk6).mono (T := fun q => q = gF) (fun _ _ f => f.elim)).trans (kept_set w6 gF 4 (.int .i64 cp)))
      clear hb6 hKwd hk6 hHeld HCO
      generalize w6.setCell ⟨gF, 4, none⟩ (.int .i64 cp) = wB at *
      have HKWB : Hid (KF W2 wB) := HKW.out.step HKB.out (fun i hi e => by omega)
      obtain ⟨_, _, _, q4⟩ := HSM.out _ HKB.out
      have HBT2 : Hid (∀ w', Kept (fun q => q = gF) wB w' → True) := fun _ _ => trivial
      have HCQ : Hid (Calls Tryz.prog 69 #[.slice (some ⟨gB, 0, none⟩) k cB, .slice rao j rc] wB fun e w' => e = .returned (.int .i64 (costOfP bs σ.order)) ∧ KF wB w') := by
       have h1 := costOf_any wB bs B2 gB cB (HRB.out.same HKWB.out) (Nat.lt_of_lt_of_le HGL.out.2 (Nat.le_trans HK2.out.size HKWB.out.size)) (by rw [← HNF.out]; omega) (by rw [← HNF.out]; exact HFU.out) HL4.out (.slice rao j rc) σ.order _ (HKB.out.ownsRow HRO.out (fun q hq e => own_box2 HRO.out HBA.out (by decide) (by rw [hq, e]))) (by rw [← HNF.out, ← HMO.out]; omega) (by rw [← HNF.out]; exact fun m hm => ⟨(HTI.out.od m hm).1, (HTI.out.od m hm).2.1⟩)
       rw [← HNF.out] at h1
       exact h1
      obtain ⟨cq, hcq⟩ := nmd (costOfP bs σ.order)
      rw [← hcq] at HCQ
      have HCQE := hid_of hcq
      clear hcq HBT2 HSM
      go_wp2_with fail
      refine HCQ.out.mono ?_
      rintro e w7 ⟨rfl, hk7⟩
      have hb7 := box_kept hk7 HBB.out id
      have t5 := cell_block _ _ 5 _ _ _ hb7
      have tf := frozen_block _ _ 5 _ _ hb7
      have HBC := hid_of (set_block _ _ 5 _ _ _ hb7 (.int .i64 cq))
      have HKC := hid_of ((HKB.out.trans (hk7.mono (T := fun q => q = gF) (fun _ _ f => f.elim))).trans (kept_set w7 gF 5 (.int .i64 cq)))
      clear hb7 hk7 HCQ q4 HBB HKB HKWB
      go_upto_region 21 with fail
      clear t5 tf
      generalize w7.setCell ⟨gF, 5, none⟩ (.int .i64 cq) = wC at *
      have hbR := box_kept (HKC.out) HBR.out (fun (e : s + 1 = gF) => by omega)
      obtain ⟨hx, hkx⟩ := set6 wC (s + 1) 33 _ _ _ _ _ _ (.slice a1 k n1) (.slice a2 l2 n2) (.slice a3 k n3) (.slice (some ⟨gl, 0, none⟩) k k) (.int .i64 cp) (.int .i64 cq) hbR
      obtain ⟨hfa, hkf⟩ := HEND.out wC cp cq (HKC.out) HBC.out (by rw [HFX.out, HCP.out]; exact if_neg HAG.out) (by rw [HFX.out, HCQE.out]; exact if_neg HAG.out) _ hkx
      obtain ⟨⟨d0, d1, d2, d3, d4, d5⟩, f0, f1, f2, f3, f4, f5⟩ := look6 hbR
      obtain ⟨⟨r0, r1, r2, r3, r4, r5⟩, _⟩ := look6 (HBC.out)
      have HX := hid_of hx
      have HFA := hid_of hfa
      have HKF := hid_of hkf
      clear hbR hx hkx hfa hkf HEND HBR
      go_wp2
      refine bodyPost_ret (v := .agg #[.slice a1 k n1, .slice a2 l2 n2, .slice a3 k n3, .slice (some ⟨gl, 0, none⟩) k k, .int .i64 cp, .int .i64 cq]) ?_ rfl ⟨HKF.out, _, rfl, HFA.out⟩
      exact results_cell_row (by rfl) _ _ (s + 1) 33 _ (0, 0) _ (by rfl) HX.out Tryz.underlying33 rfl size33
end Go.Proofs.YtcaadgcfceommaaGreat

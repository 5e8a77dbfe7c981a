import Derived.Test.YtcaadgcfceommaaGreatTKr
namespace Go.Proofs.YtcaadgcfceommaaGreat
open Go.RowKit
set_option linter.unusedVariables false
set_option linter.unusedSimpArgs false
set_option maxRecDepth 100000
theorem results_row2 {P : Program} {fn : Func} {p q : Tmp} {ty ty2 : TypeId} (h : fn.results = #[.cell p ty, .cell q ty2]) (tmps : Array Value) (w : World) (g g2 : Nat) (t t2 : TypeId) (cs cs2 : Array Value) (fr fr2 : Nat × Nat) (d d2 : TypeDesc)
  (hp : tmps.getD p undef = .pointer (some ⟨g, 0, none⟩)) (hg : w.heap[g]? = some (.cells cs t fr)) (hu : P.underlying ty = some d) (hd : (match d with | .struct _ | .array _ _ => true | _ => false) = true) (hi : (P.info? ty).map (·.size) = some cs.size)
  (hp2 : tmps.getD q undef = .pointer (some ⟨g2, 0, none⟩)) (hg2 : w.heap[g2]? = some (.cells cs2 t2 fr2)) (hu2 : P.underlying ty2 = some d2) (hd2 : (match d2 with | .struct _ | .array _ _ => true | _ => false) = true) (hi2 : (P.info? ty2).map (·.size) = some cs2.size) :
  (results fn tmps).run P w = .ok (.tuple #[.agg cs, .agg cs2]) w := by
 have hp' : tmps[p]?.getD undef = .pointer (some ⟨g, 0, none⟩) := by simpa using hp
 have hp2' : tmps[q]?.getD undef = .pointer (some ⟨g2, 0, none⟩) := by simpa using hp2
 simp [results, h, hp', hp2', asAddr, run_loadVar_row w g t ty cs fr d hg hu hd hi, run_loadVar_row w g2 t2 ty2 cs2 fr2 d2 hg2 hu2 hd2 hi2]
theorem set4 (w : World) (g : Nat) (t : TypeId) (a b c d x y z u : Value) (h : w.heap[g]? = some (.cells #[a, b, c, d] t (0, 0))) :
  ((((w.setCell ⟨g, 0, none⟩ x).setCell ⟨g, 1, none⟩ y).setCell ⟨g, 2, none⟩ z).setCell ⟨g, 3, none⟩ u).heap[g]? = some (.cells #[x, y, z, u] t (0, 0)) ∧ Kept (fun k => k = g) w ((((w.setCell ⟨g, 0, none⟩ x).setCell ⟨g, 1, none⟩ y).setCell ⟨g, 2, none⟩ z).setCell ⟨g, 3, none⟩ u) := by
 have h1 := set_block _ _ 0 _ _ _ h x
 have h2 := set_block _ _ 1 _ _ _ h1 y
 have h3 := set_block _ _ 2 _ _ _ h2 z
 have h4 := set_block _ _ 3 _ _ _ h3 u
 exact ⟨h4, (((kept_set w g 0 x).trans (kept_set _ g 1 y)).trans (kept_set _ g 2 z)).trans (kept_set _ g 3 u)⟩
theorem look4 {w : World} {g : Nat} {t : TypeId} {a b c d : Value} (h : w.heap[g]? = some (.cells #[a, b, c, d] t (0, 0))) : w.cell? ⟨g, 0, none⟩ = some a ∧ w.cell? ⟨g, 1, none⟩ = some b ∧ w.cell? ⟨g, 2, none⟩ = some c ∧ w.cell? ⟨g, 3, none⟩ = some d ∧ w.frozen? ⟨g, 0, none⟩ = false ∧ w.frozen? ⟨g, 1, none⟩ = false ∧ w.frozen? ⟨g, 2, none⟩ = false ∧ w.frozen? ⟨g, 3, none⟩ = false :=
 ⟨cell_block _ _ 0 _ _ _ h, cell_block _ _ 1 _ _ _ h, cell_block _ _ 2 _ _ _ h, cell_block _ _ 3 _ _ _ h, frozen_block _ _ 0 _ _ h, frozen_block _ _ 1 _ _ h, frozen_block _ _ 2 _ _ h, frozen_block _ _ 3 _ _ h⟩
theorem look3 {w : World} {g : Nat} {t : TypeId} {a b c : Value} (h : w.heap[g]? = some (.cells #[a, b, c] t (0, 0))) : w.cell? ⟨g, 0, none⟩ = some a ∧ w.cell? ⟨g, 1, none⟩ = some b ∧ w.cell? ⟨g, 2, none⟩ = some c ∧ w.frozen? ⟨g, 0, none⟩ = false ∧ w.frozen? ⟨g, 1, none⟩ = false ∧ w.frozen? ⟨g, 2, none⟩ = false :=
 ⟨cell_block _ _ 0 _ _ _ h, cell_block _ _ 1 _ _ _ h, cell_block _ _ 2 _ _ _ h, frozen_block _ _ 0 _ _ h, frozen_block _ _ 1 _ _ h, frozen_block _ _ 2 _ _ h⟩
theorem Kept.trans' {S T : Nat → Prop} {a b c : World} (h : Kept S a b) (h2 : Kept T b c) : Kept (fun k => S k ∨ T k) a c := (h.mono (fun k _ hk => .inl hk)).trans (h2.mono (fun k _ hk => .inr hk))
theorem RowS.mono {w : World} {base base' g : Nat} {ss : List ST} (h : RowS w base' g ss) (hb : base ≤ base') : RowS w base g ss := fun i s hs => by
 obtain ⟨nv, h1, h2⟩ := h i s hs
 exact ⟨nv, h1, own_mono h2 hb⟩
def nxOf (ss : List ST) (i : Nat) : List Int := (ss.getD i st0).nx
def loopsF (ag : List Bool) (k : Nat) : List Int := ((List.range k).filter (fun i => ag.getD i false)).map Int.ofNat
def bodyD (ss : List ST) (n : Nat) : Except (Int × Int) BD :=
 match heightsD ss n with
 | .ok hs => .ok ⟨ss, hs, loopsF (tourP (nxOf ss) n).again n, (tourP (nxOf ss) n).order⟩
 | .error x => .error x
structure BdFull (nf n : Nat) (b : BD) : Prop extends BdOk n b where
 cl : ∀ m ∈ callsP b, 0 ≤ (b.ss.getD m.toNat st0).a ∧ (b.ss.getD m.toNat st0).a < nf
 nx : ∀ m ∈ b.order, (b.ss.getD m.toNat st0).nx.length ≤ 5000 ∧ ∀ x ∈ (b.ss.getD m.toNat st0).nx, 0 ≤ x ∧ x < n
def BodyR (nf n i : Nat) (ss : List ST) (w : World) (e : Ending) (w' : World) : Prop := KF w w' ∧
 match bodyD ss n with
 | .ok b => ∃ gs hv lv ov, e = .returned (.tuple #[.agg #[.slice (some ⟨gs, 0, none⟩) n n, hv, lv, ov], .agg #[.int .i64 0, .int .i64 0, .int .i64 0]]) ∧ BdAt w' w.heap.size gs n hv lv ov b ∧ BdFull nf n b ∧ w.heap.size ≤ gs
 | .error (x, y) => y ≠ 0 ∧ e = .returned (.tuple #[.agg #[.slice none 0 0, .slice none 0 0, .slice none 0 0, .slice none 0 0], .agg #[.int .i64 y, .int .i64 (i : Int), .int .i64 x]])
theorem BdAt.kept {S : Nat → Prop} {w w' : World} {B gs n : Nat} {hv lv ov : Value} {b : BD} (h : BdAt w B gs n hv lv ov b) (hk : Kept S w w') (hS : ∀ q, B ≤ q → ¬ S q) (hg : B ≤ gs) : BdAt w' B gs n hv lv ov b :=
 ⟨h.len, h.ss.kept hk (hS gs hg) hS, h.hl, hk.ownsRow h.hs (fun q hq => hS q (h.hs.lt q hq).1), hk.ownsRow h.lo (fun q hq => hS q (h.lo.lt q hq).1), hk.ownsRow h.od (fun q hq => hS q (h.od.lt q hq).1)⟩
theorem BdAt.mono {w : World} {B B' gs n : Nat} {hv lv ov : Value} {b : BD} (h : BdAt w B' gs n hv lv ov b) (hb : B ≤ B') : BdAt w B gs n hv lv ov b :=
 ⟨h.len, h.ss.mono hb, h.hl, own_mono h.hs hb, own_mono h.lo hb, own_mono h.od hb⟩
theorem loopsF_succ (ag : List Bool) (k : Nat) : loopsF ag (k + 1) = if ag.getD k false = true then loopsF ag k ++ [(k : Int)] else loopsF ag k := by
 unfold loopsF
 rw [List.range_succ, List.filter_append, List.map_append]
 cases h : ag.getD k false with
 | true =>
  have e : [k].filter (fun i => ag.getD i false) = [k] := by rw [List.filter_cons, if_pos h]; rfl
  rw [e, if_pos rfl]
  rfl
 | false =>
  have e : [k].filter (fun i => ag.getD i false) = [] := by rw [List.filter_cons, if_neg (by rw [h]; decide)]; rfl
  rw [e, if_neg (by decide)]
  exact List.append_nil _
theorem loopsF_len (ag : List Bool) (k : Nat) : (loopsF ag k).length ≤ k := by
 unfold loopsF
 rw [List.length_map]
 have := List.length_filter_le (fun i => ag.getD i false) (List.range k)
 rwa [List.length_range] at this
theorem size77 : (Tryz.prog.info? 77).map (·.size) = some 4 := by kernel_rfl
set_option maxHeartbeats 16000000 in
theorem body_any (v : Value) (p : PG) (w : World) (B : Nat) (h : PgIs w B v p) (hB : B ≤ w.heap.size) (ho : p.Ok) (hok : ∀ f ∈ p.fns, FnOk p f) (hnf64 : p.fns.length ≤ 64) (i : Nat) (f : FN) (hfi : p.fns[i]? = some f) :
  Calls Tryz.prog 35 #[v, .int .i64 (i : Int)] w (BodyR p.fns.length f.code.length i (stepsL p f) w) := by
 have hfm := List.mem_of_getElem? hfi
 have hfo := hok f hfm
 have hss := steps_ok p f hfo hok
 have hil : i < p.fns.length := (List.getElem?_eq_some_iff.1 hfi).1
 have hpg := h
 obtain ⟨dv, fv, rfl, hd, hdl, hf⟩ := h
 obtain ⟨dao, dc, rfl⟩ := hd.shape
 obtain ⟨fao, fc, rfl⟩ := hf.shape
 obtain ⟨gf, o, f', hao, hgB, hf', hfa⟩ := hf.at hil
 have : f' = f := by rw [hfi] at hf'; exact (Option.some.inj hf').symm
 subst this
 subst hao
 obtain ⟨cao, cc, x0, x1, x2, x3, hri, hcl⟩ := fn_read hfa
 obtain ⟨nf, hnf⟩ := nmd (p.fns.length)
 obtain ⟨nd, hnd⟩ := nmd (p.data.length)
 obtain ⟨mem, hmem⟩ := nmd (p.mem)
 have HST0 := hid_of (fun W (hW : KF w W) => steps_any _ p f' cao cc W B (hpg.kept hW (fun _ _ f => f)) (hri.keptB hW (fun _ _ _ f => f)) (ho.fns _ hfm).code hfo.n.2)
 rw [← hnf, ← hnd, ← hmem] at HST0 ⊢
 obtain ⟨gb, hgb⟩ := nmd (w.heap.size)
 obtain ⟨W, hW⟩ := nmd (((w.alloc (.cells #[.int .i64 mem, .slice dao nd dc, .slice (some ⟨gf, o, none⟩) nf fc] 25)).alloc (.cells #[.slice none 0 0, .slice none 0 0, .slice none 0 0, .slice none 0 0] 77)).alloc (.cells #[.int .i64 0, .int .i64 0, .int .i64 0] 38))
 obtain ⟨hkW, hb1, hb2, hb3⟩ := allocs3 _ _ _ _ _ _ _ _ hW
 rw [← hgb] at hb1 hb2 hb3
 have HST := hid_of (fun W' (hW' : KF W W') => HST0.out W' (hkW.trans hW'))
 obtain ⟨n, hn⟩ := nmd (f'.code.length)
 unfold StepsR at HST
 rw [← hn] at HST hss ⊢
 have HSM : Hid (∀ w', KF W w' → w'.cell? ⟨gb, 0, none⟩ = some (.int .i64 mem) ∧ w'.cell? ⟨gb, 1, none⟩ = some (.slice dao nd dc) ∧ w'.cell? ⟨gb, 2, none⟩ = some (.slice (some ⟨gf, o, none⟩) nf fc) ∧ w'.cell? ⟨gf, o + i * 4, none⟩ = some (.int .i64 f'.a) ∧ w'.cell? ⟨gf, o + i * 4 + 1, none⟩ = some (.int .i64 f'.l) ∧ w'.cell? ⟨gf, o + i * 4 + 2, none⟩ = some (.int .i64 f'.r) ∧ w'.cell? ⟨gf, o + i * 4 + 3, none⟩ = some (.slice cao n cc)) := fun w' hw =>
  ⟨hw.cell (cell_block _ _ 0 _ _ _ hb1) id, hw.cell (cell_block _ _ 1 _ _ _ hb1) id, hw.cell (cell_block _ _ 2 _ _ _ hb1) id, (hkW.trans hw).cell x0 id, (hkW.trans hw).cell x1 id, (hkW.trans hw).cell x2 id, by rw [hn]; exact (hkW.trans hw).cell x3 id⟩
 have HKW := hid_of hkW
 have HWS : Hid (W.heap.size = gb + 3) := by unfold Hid; rw [hW, hgb]; simp
 have HB2 := hid_of hb2
 have HB3 := hid_of hb3
 have HGB := hid_of hgb
 have HSS := hid_of hss
 have HFO := hid_of hfo
 have hiI : (i : Int) < (nf : Int) := by omega
 have hnn := hss.pos
 have HCA : Hid (∀ s ∈ stepsL p f', s.op = 17 → 0 ≤ s.a ∧ s.a < (nf : Int)) := by rw [hnf]; exact steps_call p f' hfo
 generalize stepsL p f' = ss at *
 generalize f'.a = fa at *
 generalize f'.l = fl at *
 generalize f'.r = fr at *
 have hnf6 : nf ≤ 64 := by omega
 clear hb1 hb2 hb3 hkW hss hfo hri hcl x0 x1 x2 x3 hfa hf hd hdl HST0 hpg ho hok hfm hf' hfi hnf hnd hmem hil hn hnf64 hB hgB HFO
 go_enter Tryz.func35, Tryz.ntmps35
 go_upto_region 1 with fail
 rw [← hW, ← hgb]
 clear hW hgb
 refine wp_region_held_drew (S := fun w' => KF W w') (by kernel_rfl) ((Kept.refl _ _).drew) (fun hHeld => ?_)
 generalize W.drew = wd at *
 iterate 6
  refine tkn (v := ?_) 0 rfl ?_ ?_; rotate_left 1
  ·intro w hSw; obtain ⟨s0, s1, s2, s3, s4, s5, s6⟩ := HSM.out w hSw; go_simp; try with_reducible rfl
  try simp only [Act.put, tdy]
 refine wpAnyH_ready (rs := [6, 7]) (by kernel_rfl) (by simp) ?_
 refine AllReadyH.cons rfl (fun K hK => ?_) (AllReadyH.cons rfl (fun K hK => ?_) AllReadyH.nil)
 ·go_simp
  refine (HST.out _ hHeld).mono ?_
  rintro e w5 ⟨gs, rfl, hgs1, hgs2, hrs, hk5⟩
  have HK5 := hid_of (hHeld.trans hk5)
  have hsz := hHeld.size
  refine hK.out _ _ HK5.out (fun hHeld => ?_)
  clear hK K
  try simp only [Act.put, tdy]
  refine rdy 7 rfl (fun K hK => ?_)
  go_simp
  refine hK.out _ _ (hHeld.alloc _) (fun hHeld => ?_)
  clear hK K
  try simp only [Act.put, tdy]
  refine rdy 8 rfl (fun K hK => ?_)
  go_simp
  have hk6 := HK5.out.alloc (.cells #[.slice (some ⟨gs, 0, none⟩) n n] 75)
  have hba6 := heap_alloc_new w5 (.cells #[.slice (some ⟨gs, 0, none⟩) n n] 75)
  have hrs6 : RowS _ W.heap.size gs ss := (hrs.same ((Kept.refl _ _).alloc (.cells #[.slice (some ⟨gs, 0, none⟩) n n] 75))).mono hsz
  refine hK.out _ _ hk6 (fun hHeld => ?_)
  clear hK K
  try simp only [Act.put, tdy]
  refine wpAnyH_done (by kernel_rfl) ?_ _
  have HGS : Hid (W.heap.size ≤ gs) := Nat.le_trans hsz hgs1
  clear HK5 hHeld hrs hk5 hgs1 hgs2 hsz
  generalize w5.alloc (.cells #[.slice (some ⟨gs, 0, none⟩) n n] 75) = w6 at *
  generalize w5.heap.size = a at *
  have HK6 := hid_of hk6
  have HBA := hid_of hba6
  have HRS := hid_of hrs6
  have q0 := cell_block _ _ 0 _ _ _ hba6
  have HHE := hid_of (heights_any gs n ss w6 W.heap.size hrs6 HSS.out)
  clear hk6 hba6 hrs6 HST HSM
  go_wp2_with fail
  refine HHE.out.mono ?_
  rintro e w7 ⟨hk7, hm⟩
  have HK7 := hid_of (HK6.out.trans hk7)
  have HBA7 := hid_of (box_kept hk7 HBA.out id)
  have HRS7 := hid_of (HRS.out.same hk7)
  have HC2 := hid_of (box_kept HK7.out HB2.out id)
  have HC3 := hid_of (box_kept HK7.out HB3.out id)
  clear hk7 HHE HRS HBA q0 HB2 HB3
  cases hD : heightsD ss n with
  | error xy =>
   obtain ⟨x, y⟩ := xy
   rw [hD] at hm
   obtain ⟨hy, rfl⟩ := hm
   have HBD : Hid (bodyD ss n = .error (x, y)) := by unfold Hid bodyD; rw [hD]
   have hyb : (y != 0) = true := by simp; exact hy
   have HY := hid_of hy
   obtain ⟨hx, hkx⟩ := set4 w7 (gb + 1) 77 _ _ _ _ (.slice none 0 0) (.slice none 0 0) (.slice none 0 0) (.slice none 0 0) HC2.out
   obtain ⟨d0, d1, d2, d3, f0, f1, f2, f3⟩ := look4 HC2.out
   have hz := box_kept hkx HC3.out (fun e => by omega)
   obtain ⟨hx2, hkx2⟩ := set3 _ (gb + 2) 38 _ _ _ (.int .i64 y) (.int .i64 (i : Int)) (.int .i64 x) hz
   obtain ⟨d4, d5, d6, f4, f5, f6⟩ := look3 hz
   have HX1 := hid_of (box_kept hkx2 hx (fun e => by omega))
   have HX2 := hid_of hx2
   have HKX : Hid (KF w _) := (HKW.out.trans HK7.out).step (hkx.trans' hkx2) (fun j hj e => by have := HGB.out; omega)
   clear hx hkx hz hx2 hkx2 hD hy HC2 HC3
   go_wp2
   refine bodyPost_ret (v := .tuple #[.agg #[.slice none 0 0, .slice none 0 0, .slice none 0 0, .slice none 0 0], .agg #[.int .i64 y, .int .i64 (i : Int), .int .i64 x]]) ?_ rfl ⟨HKX.out, by rw [HBD.out]; exact ⟨HY.out, rfl⟩⟩
   exact results_row2 (by rfl) _ _ (gb + 1) (gb + 2) 77 38 _ _ (0, 0) (0, 0) _ _ (by rfl) HX1.out Tryz.underlying77 rfl size77 (by rfl) HX2.out Tryz.underlying38 rfl size38
  | ok hs =>
   rw [hD] at hm
   obtain ⟨hhl, gh, ch, rfl, hoh⟩ := hm
   have hHO := heights_ok ss n HSS.out hs hD
   have HBD : Hid (bodyD ss n = .ok ⟨ss, hs, loopsF (tourP (nxOf ss) n).again n, (tourP (nxOf ss) n).order⟩) := by unfold Hid bodyD; rw [hD]
   have HHO := hid_of hHO
   have HOH := hid_of (own_mono hoh HK6.out.size)
   have HTO : Hid (Calls Tryz.prog 62 #[.int .i64 (n : Int), .func (.func 63) #[] #[.pointer (some ⟨a, 0, none⟩)]] w7 (TourR w7 n (.func (.func 63) #[] #[.pointer (some ⟨a, 0, none⟩)]) (nxOf ss) (fun j => hs.getD j 0 ≠ -1))) := by
    refine tour_63 w7 n _ (nxOf ss) (by omega) (by omega) (fun j => hs.getD j 0 ≠ -1) HHO.out.2.2.1 (fun j hj hR => ?_) (fun j hj W1 hW1 => ?_)
    ·have hjs : j < ss.length := by rw [HSS.out.len]; exact hj
     have e : ss.getD j st0 = ss[j] := by simp [List.getD, List.getElem?_eq_getElem hjs]
     unfold nxOf
     rw [e]
     exact ⟨by have := (HSS.out.nx _ (List.getElem_mem hjs)).2; omega, HHO.out.2.2.2 j _ hj (List.getElem?_eq_getElem hjs) hR⟩
    ·have hjs : j < ss.length := by rw [HSS.out.len]; exact hj
     have e : ss.getD j st0 = ss[j] := by simp [List.getD, List.getElem?_eq_getElem hjs]
     obtain ⟨nv, hr, hown⟩ := HRS7.out j _ (List.getElem?_eq_getElem hjs)
     refine (next63 a gs n j nv W1 (box_kept hW1 HBA7.out id) (hW1.cell (hr 4 _ rfl) id) hj (by omega)).mono ?_
     rintro e2 w' ⟨rfl, rfl⟩
     refine ⟨⟨nv, rfl, ?_⟩, rfl⟩
     unfold nxOf
     rw [e]
     exact own_mono hown (Nat.zero_le _)
   have q0 := cell_block _ _ 0 _ _ _ HBA7.out
   have hn0 : (0 : Int) ≤ (n : Int) := by omega
   have HHL := hid_of hhl
   have HSL : Hid (ss.length = n) := HSS.out.len
   clear hHO hoh hD hhl
   go_wp2_with fail
   refine HTO.out.mono ?_
   rintro e w8 ⟨ta, gt, ct, ga, ca, vo, vr, rfl, hTI, hTr⟩
   obtain ⟨σ, hσ⟩ := nmd (tourP (nxOf ss) n)
   rw [← hσ] at hTI hTr HBD
   have HFB : Hid (BdFull nf n ⟨ss, hs, loopsF σ.again n, σ.order⟩) := by
    refine ⟨⟨hnn, HSS.out.stb, HHO.out.2.1, fun m hm => ⟨(hTI.od m hm).1, (hTI.od m hm).2.1⟩, by have := hTI.cnt; simp only; omega⟩, fun m hm => ?_, fun m hm => ?_⟩
    ·have h1 := List.mem_filter.1 hm
     have h2 := hTI.od m h1.1
     have hjs : m.toNat < ss.length := by rw [HSS.out.len]; omega
     have e : ss.getD m.toNat st0 = ss[m.toNat] := by simp [List.getD, List.getElem?_eq_getElem hjs]
     have h3 := of_decide_eq_true h1.2
     simp only at h3 ⊢
     rw [e] at h3 ⊢
     exact HCA.out _ (List.getElem_mem hjs) h3
    ·have h2 := hTI.od m hm
     have hjs : m.toNat < ss.length := by rw [HSS.out.len]; omega
     have e : ss.getD m.toNat st0 = ss[m.toNat] := by simp [List.getD, List.getElem?_eq_getElem hjs]
     simp only
     rw [e]
     exact ⟨by have := (HSS.out.nx _ (List.getElem_mem hjs)).2; omega, fun x hx => by
      have := HHO.out.2.2.2 m.toNat _ (by omega) (List.getElem?_eq_getElem hjs) h2.2.2 x hx
      exact ⟨this.1, this.2.1⟩⟩
   obtain ⟨rao, rc, hvr⟩ := ownsRow_shape hTr.od
   obtain ⟨mo, hmo⟩ := nmd (σ.order.length)
   rw [← hmo] at hvr
   subst hvr
   have HTR := hid_of hTr
   have hbT := hTr.box
   have HK78 := hid_of hTr.kept
   have HSM : Hid (∀ w', KF w8 w' → w'.cell? ⟨a, 0, none⟩ = some (.slice (some ⟨gs, 0, none⟩) n n) ∧ w'.cell? ⟨ta, 4, none⟩ = some (.slice rao mo rc)) := fun w' hw =>
    ⟨hw.cell (cell_block _ _ 0 _ _ _ (box_kept HK78.out HBA7.out id)) id, hw.cell (cell_block _ _ 4 _ _ _ hbT) id⟩
   have HS5 : Hid (w8.cell? ⟨ta, 5, none⟩ = some (.slice (some ⟨ga, 0, none⟩) n ca)) := cell_block _ _ 5 _ _ _ hbT
   clear hTI hTr hbT hσ hmo HTO q0 HHO HCA HSS
   go_upto_region 6 with fail
   refine wp_region_held_drew (S := fun w' => KF w8 w') (by kernel_rfl) ((Kept.refl _ _).drew) (fun hHeld => ?_)
   have hKwd := hHeld
   generalize w8.drew = wd2 at *
   iterate 7
    refine tkn (v := ?_) 0 rfl ?_ ?_; rotate_left 1
    ·intro w hSw; obtain ⟨s0, s1⟩ := HSM.out w hSw; go_simp; try with_reducible rfl
    try simp only [Act.put, tdy]
   refine rdy 7 rfl (fun K hK => ?_)
   go_simp
   refine hK.out _ _ (hHeld.alloc _) (fun hHeld => ?_)
   clear hK K
   try simp only [Act.put, tdy]
   refine rdy 8 rfl (fun K hK => ?_)
   go_simp
   refine hK.out _ _ (hKwd.alloc _) (fun hHeld => ?_)
   clear hK K
   try simp only [Act.put, tdy]
   refine wpAnyH_done (by kernel_rfl) ?_ _
   have hk9 := hKwd.alloc (.cells #[.slice (some ⟨gs, 0, none⟩) n n, .slice (some ⟨gh, 0, none⟩) n ch, .slice none 0 0, .slice rao mo rc] 77)
   have hbx := heap_alloc_new wd2 (.cells #[.slice (some ⟨gs, 0, none⟩) n n, .slice (some ⟨gh, 0, none⟩) n ch, .slice none 0 0, .slice rao mo rc] 77)
   have hgx := hKwd.size
   have q5 := hk9.cell HS5.out id
   have HK9 := hid_of hk9
   have HBX9 := hid_of hbx
   have HL9 : Hid (OwnN (wd2.alloc (.cells #[.slice (some ⟨gs, 0, none⟩) n n, .slice (some ⟨gh, 0, none⟩) n ch, .slice none 0 0, .slice rao mo rc] 77)) w8.heap.size (.slice none 0 0) (loopsF σ.again 0)) := World.ownsRow_nil _ _ _ _
   clear hHeld hKwd hk9 hbx HSM HS5
   generalize wd2.alloc (.cells #[.slice (some ⟨gs, 0, none⟩) n n, .slice (some ⟨gh, 0, none⟩) n ch, .slice none 0 0, .slice rao mo rc] 77) = w9 at *
   generalize wd2.heap.size = gx at *
   go_wp2
   clear q5
   go_loopw [51] (fun iv wr => ∃ (k : Nat) (lv : Value), k ≤ n ∧ iv = .int .i64 (k : Int) ∧ Hid (wr.heap[gx]? = some (.cells #[.slice (some ⟨gs, 0, none⟩) n n, .slice (some ⟨gh, 0, none⟩) n ch, lv, .slice rao mo rc] 77 (0, 0))) ∧ Hid (OwnN wr w8.heap.size lv (loopsF σ.again k)) ∧ Hid (KF w8 wr)) (fun iv _ => n - (intOf iv).toNat)
   case atStart => exact ⟨0, _, by omega, rfl, HBX9, HL9, HK9⟩
   case round =>
    clear HBX9 HL9 HK9
    obtain ⟨k, lv, hk, rfl, HBX, HL, HK⟩ := hrel
    by_cases hlt : k < n
    ·have hltI : (k : Int) < (n : Int) := by omega
     have hag := (HTR.out.same HK.out).aAt k (by omega)
     obtain ⟨lao, lc, hlv⟩ := ownsRow_shape HL.out
     have hll := loopsF_len σ.again k
     have HLL : Hid ((loopsF σ.again k).length ≤ 5000) := by unfold Hid; omega
     generalize (loopsF σ.again k).length = ll at hlv
     subst hlv
     have b2 := cell_block _ _ 2 _ _ _ HBX.out
     have hag1 := hag.1
     clear hag hll
     cases hb : σ.again.getD k false with
     | true =>
      rw [hb] at hag1
      obtain ⟨v', w', hr, ho, hk0, hk1⟩ := push_num HL.out (k : Int) HK.out (by have := HLL.out; omega)
      have HR := hid_of hr
      have hbx' := box_kept hk1 HBX.out (fun e => own_box2 HL.out HBX.out (by decide) e)
      have d2 := cell_block _ _ 2 _ _ _ hbx'
      have df := frozen_block _ _ 2 _ _ hbx'
      have HBXN := hid_of (set_block _ _ 2 _ _ _ hbx' v')
      have HKN := hid_of (hk0.setCell (p := ⟨gx, 2, none⟩) (.inl hgx) v')
      have HLN : Hid (OwnN (w'.setCell ⟨gx, 2, none⟩ v') w8.heap.size v' (loopsF σ.again (k + 1))) := by
       unfold Hid
       rw [loopsF_succ, hb, if_pos rfl]
       exact (kept_set w' gx 2 v').ownsRow ho (fun q hq e => own_box2 ho hbx' (by decide) (by rw [hq, e]))
      obtain ⟨ao', c', hv'⟩ := ownsRow_shape ho
      generalize (loopsF σ.again k ++ [(k : Int)]).length = nl' at hv'
      subst hv'
      clear hr ho hk0 hk1 hbx' hb
      go_wp2_with (at_builtin; refine wp_app2 rfl (.tmp 58) (.tmp 60) 30 30 rfl _ _ rfl rfl _ w' HR.out ?_)
      go_roundw
      case rel => exact ⟨k + 1, _, by omega, by go_num, HBXN, HLN, HKN⟩
      case measure => simp [intOf]; omega
     | false =>
      rw [hb] at hag1
      have HLN : Hid (OwnN wr w8.heap.size (.slice lao ll lc) (loopsF σ.again (k + 1))) := by
       unfold Hid
       rw [loopsF_succ, hb, if_neg (by decide)]
       exact HL.out
      clear hb
      go_wp2
      go_roundw
      case rel => exact ⟨k + 1, _, by omega, by go_num, HBX, HLN, HK⟩
      case measure => simp [intOf]; omega
    ·have e : k = n := by omega
     subst e
     have hkr := HK78.out.trans HK.out
     obtain ⟨hx, hkx⟩ := set4 wr (gb + 1) 77 _ _ _ _ (.slice (some ⟨gs, 0, none⟩) k k) (.slice (some ⟨gh, 0, none⟩) k ch) lv (.slice rao mo rc) (box_kept hkr HC2.out id)
     obtain ⟨d0, d1, d2, d3, f0, f1, f2, f3⟩ := look4 (box_kept hkr HC2.out id)
     have hz := box_kept hkx (box_kept hkr HC3.out id) (fun e => by omega)
     obtain ⟨hx2, hkx2⟩ := set3 _ (gb + 2) 38 _ _ _ (.int .i64 0) (.int .i64 0) (.int .i64 0) hz
     obtain ⟨d4, d5, d6, f4, f5, f6⟩ := look3 hz
     obtain ⟨b0, b1, b2, b3, _, _, _, _⟩ := look4 HBX.out
     have hws := HWS.out
     have hBD : BdAt wr W.heap.size gs k (.slice (some ⟨gh, 0, none⟩) k ch) lv (.slice rao mo rc) ⟨ss, hs, loopsF σ.again k, σ.order⟩ :=
      ⟨HSL.out, HRS7.out.same hkr, HHL.out, hkr.ownsRow HOH.out (fun _ _ f => f), own_mono HL.out (Nat.le_trans HK7.out.size HK78.out.size), HK.out.ownsRow (own_mono HTR.out.od HK7.out.size) (fun _ _ f => f)⟩
     have HBDF := hid_of ((hBD.kept (hkx.trans' hkx2) (fun q hq e => by omega) HGS.out).mono HKW.out.size)
     have HX1 := hid_of (box_kept hkx2 hx (fun e => by omega))
     have HX2 := hid_of hx2
     have HKX : Hid (KF w _) := ((HKW.out.trans HK7.out).trans hkr).step (hkx.trans' hkx2) (fun j hj e => by have := HGB.out; omega)
     obtain ⟨lao, lc, hlv⟩ := ownsRow_shape HL.out
     generalize (loopsF σ.again k).length = ll at hlv
     subst hlv
     clear hx hkx hz hx2 hkx2 hBD hkr HC2 HC3 HBX HL HK HTR HOH
     go_wp2
     refine bodyPost_ret (v := .tuple #[.agg #[.slice (some ⟨gs, 0, none⟩) k k, .slice (some ⟨gh, 0, none⟩) k ch, .slice lao ll lc, .slice rao mo rc], .agg #[.int .i64 0, .int .i64 0, .int .i64 0]]) ?_ rfl ⟨HKX.out, by rw [HBD.out]; exact ⟨_, _, _, _, rfl, HBDF.out, HFB.out, Nat.le_trans HKW.out.size HGS.out⟩⟩
     exact results_row2 (by rfl) _ _ (gb + 1) (gb + 2) 77 38 _ _ (0, 0) (0, 0) _ _ (by rfl) HX1.out Tryz.underlying77 rfl size77 (by rfl) HX2.out Tryz.underlying38 rfl size38
 ·go_simp
  have hsz := hHeld.size
  refine hK.out _ _ (hHeld.alloc _) (fun hHeld => ?_)
  clear hK K
  try simp only [Act.put, tdy]
  refine rdy 6 rfl (fun K hK => ?_)
  go_simp
  refine (HST.out _ hHeld).mono ?_
  rintro e w5 ⟨gs, rfl, hgs1, hgs2, hrs, hk5⟩
  have HK5 := hid_of (hHeld.trans hk5)
  have hba := box_kept hk5 (heap_alloc_new wd (.cells #[.slice none 0 0] 75)) id
  have e0 := cell_block _ _ 0 _ _ _ hba
  have ef := frozen_block _ _ 0 _ _ hba
  refine hK.out _ _ HK5.out (fun hHeld => ?_)
  clear hK K
  try simp only [Act.put, tdy]
  refine rdy 8 rfl (fun K hK => ?_)
  go_simp
  have hk6 := HK5.out.setCell (p := ⟨wd.heap.size, 0, none⟩) (.inl hsz) (.slice (some ⟨gs, 0, none⟩) n n)
  have hba6 := set_block _ _ 0 _ _ _ hba (.slice (some ⟨gs, 0, none⟩) n n)
  have hrs6 : RowS _ W.heap.size gs ss := (hrs.kept (kept_set w5 wd.heap.size 0 (.slice (some ⟨gs, 0, none⟩) n n)) (fun e => by simp at hgs1; omega) (fun q hq e => by simp at hq; omega)).mono (by simp; omega)
  refine hK.out _ _ hk6 (fun hHeld => ?_)
  clear hK K
  try simp only [Act.put, tdy]
  refine wpAnyH_done (by kernel_rfl) ?_ _
  have HGS : Hid (W.heap.size ≤ gs) := by simp at hgs1; unfold Hid; omega
  clear HK5 hHeld hrs hk5 hgs1 hgs2 hsz hba e0 ef
  generalize w5.setCell ⟨wd.heap.size, 0, none⟩ (.slice (some ⟨gs, 0, none⟩) n n) = w6 at *
  generalize wd.heap.size = a at *
  have HK6 := hid_of hk6
  have HBA := hid_of hba6
  have HRS := hid_of hrs6
  have q0 := cell_block _ _ 0 _ _ _ hba6
  have HHE := hid_of (heights_any gs n ss w6 W.heap.size hrs6 HSS.out)
  clear hk6 hba6 hrs6 HST HSM
  go_wp2_with fail
  refine HHE.out.mono ?_
  rintro e w7 ⟨hk7, hm⟩
  have HK7 := hid_of (HK6.out.trans hk7)
  have HBA7 := hid_of (box_kept hk7 HBA.out id)
  have HRS7 := hid_of (HRS.out.same hk7)
  have HC2 := hid_of (box_kept HK7.out HB2.out id)
  have HC3 := hid_of (box_kept HK7.out HB3.out id)
  clear hk7 HHE HRS HBA q0 HB2 HB3
  cases hD : heightsD ss n with
  | error xy =>
   obtain ⟨x, y⟩ := xy
   rw [hD] at hm
   obtain ⟨hy, rfl⟩ := hm
   have HBD : Hid (bodyD ss n = .error (x, y)) := by unfold Hid bodyD; rw [hD]
   have hyb : (y != 0) = true := by simp; exact hy
   have HY := hid_of hy
   obtain ⟨hx, hkx⟩ := set4 w7 (gb + 1) 77 _ _ _ _ (.slice none 0 0) (.slice none 0 0) (.slice none 0 0) (.slice none 0 0) HC2.out
   obtain ⟨d0, d1, d2, d3, f0, f1, f2, f3⟩ := look4 HC2.out
   have hz := box_kept hkx HC3.out (fun e => by omega)
   obtain ⟨hx2, hkx2⟩ := set3 _ (gb + 2) 38 _ _ _ (.int .i64 y) (.int .i64 (i : Int)) (.int .i64 x) hz
   obtain ⟨d4, d5, d6, f4, f5, f6⟩ := look3 hz
   have HX1 := hid_of (box_kept hkx2 hx (fun e => by omega))
   have HX2 := hid_of hx2
   have HKX : Hid (KF w _) := (HKW.out.trans HK7.out).step (hkx.trans' hkx2) (fun j hj e => by have := HGB.out; omega)
   clear hx hkx hz hx2 hkx2 hD hy HC2 HC3
   go_wp2
   refine bodyPost_ret (v := .tuple #[.agg #[.slice none 0 0, .slice none 0 0, .slice none 0 0, .slice none 0 0], .agg #[.int .i64 y, .int .i64 (i : Int), .int .i64 x]]) ?_ rfl ⟨HKX.out, by rw [HBD.out]; exact ⟨HY.out, rfl⟩⟩
   exact results_row2 (by rfl) _ _ (gb + 1) (gb + 2) 77 38 _ _ (0, 0) (0, 0) _ _ (by rfl) HX1.out Tryz.underlying77 rfl size77 (by rfl) HX2.out Tryz.underlying38 rfl size38
  | ok hs =>
   rw [hD] at hm
   obtain ⟨hhl, gh, ch, rfl, hoh⟩ := hm
   have hHO := heights_ok ss n HSS.out hs hD
   have HBD : Hid (bodyD ss n = .ok ⟨ss, hs, loopsF (tourP (nxOf ss) n).again n, (tourP (nxOf ss) n).order⟩) := by unfold Hid bodyD; rw [hD]
   have HHO := hid_of hHO
   have HOH := hid_of (own_mono hoh HK6.out.size)
   have HTO : Hid (Calls Tryz.prog 62 #[.int .i64 (n : Int), .func (.func 63) #[] #[.pointer (some ⟨a, 0, none⟩)]] w7 (TourR w7 n (.func (.func 63) #[] #[.pointer (some ⟨a, 0, none⟩)]) (nxOf ss) (fun j => hs.getD j 0 ≠ -1))) := by
    refine tour_63 w7 n _ (nxOf ss) (by omega) (by omega) (fun j => hs.getD j 0 ≠ -1) HHO.out.2.2.1 (fun j hj hR => ?_) (fun j hj W1 hW1 => ?_)
    ·have hjs : j < ss.length := by rw [HSS.out.len]; exact hj
     have e : ss.getD j st0 = ss[j] := by simp [List.getD, List.getElem?_eq_getElem hjs]
     unfold nxOf
     rw [e]
     exact ⟨by have := (HSS.out.nx _ (List.getElem_mem hjs)).2; omega, HHO.out.2.2.2 j _ hj (List.getElem?_eq_getElem hjs) hR⟩
    ·have hjs : j < ss.length := by rw [HSS.out.len]; exact hj
     have e : ss.getD j st0 = ss[j] := by simp [List.getD, List.getElem?_eq_getElem hjs]
     obtain ⟨nv, hr, hown⟩ := HRS7.out j _ (List.getElem?_eq_getElem hjs)
     refine (next63 a gs n j nv W1 (box_kept hW1 HBA7.out id) (hW1.cell (hr 4 _ rfl) id) hj (by omega)).mono ?_
     rintro e2 w' ⟨rfl, rfl⟩
     refine ⟨⟨nv, rfl, ?_⟩, rfl⟩
     unfold nxOf
     rw [e]
     exact own_mono hown (Nat.zero_le _)
   have q0 := cell_block _ _ 0 _ _ _ HBA7.out
   have hn0 : (0 : Int) ≤ (n : Int) := by omega
   have HHL := hid_of hhl
   have HSL : Hid (ss.length = n) := HSS.out.len
   clear hHO hoh hD hhl
   go_wp2_with fail
   refine HTO.out.mono ?_
   rintro e w8 ⟨ta, gt, ct, ga, ca, vo, vr, rfl, hTI, hTr⟩
   obtain ⟨σ, hσ⟩ := nmd (tourP (nxOf ss) n)
   rw [← hσ] at hTI hTr HBD
   have HFB : Hid (BdFull nf n ⟨ss, hs, loopsF σ.again n, σ.order⟩) := by
    refine ⟨⟨hnn, HSS.out.stb, HHO.out.2.1, fun m hm => ⟨(hTI.od m hm).1, (hTI.od m hm).2.1⟩, by have := hTI.cnt; simp only; omega⟩, fun m hm => ?_, fun m hm => ?_⟩
    ·have h1 := List.mem_filter.1 hm
     have h2 := hTI.od m h1.1
     have hjs : m.toNat < ss.length := by rw [HSS.out.len]; omega
     have e : ss.getD m.toNat st0 = ss[m.toNat] := by simp [List.getD, List.getElem?_eq_getElem hjs]
     have h3 := of_decide_eq_true h1.2
     simp only at h3 ⊢
     rw [e] at h3 ⊢
     exact HCA.out _ (List.getElem_mem hjs) h3
    ·have h2 := hTI.od m hm
     have hjs : m.toNat < ss.length := by rw [HSS.out.len]; omega
     have e : ss.getD m.toNat st0 = ss[m.toNat] := by simp [List.getD, List.getElem?_eq_getElem hjs]
     simp only
     rw [e]
     exact ⟨by have := (HSS.out.nx _ (List.getElem_mem hjs)).2; omega, fun x hx => by
      have := HHO.out.2.2.2 m.toNat _ (by omega) (List.getElem?_eq_getElem hjs) h2.2.2 x hx
      exact ⟨this.1, this.2.1⟩⟩
   obtain ⟨rao, rc, hvr⟩ := ownsRow_shape hTr.od
   obtain ⟨mo, hmo⟩ := nmd (σ.order.length)
   rw [← hmo] at hvr
   subst hvr
   have HTR := hid_of hTr
   have hbT := hTr.box
   have HK78 := hid_of hTr.kept
   have HSM : Hid (∀ w', KF w8 w' → w'.cell? ⟨a, 0, none⟩ = some (.slice (some ⟨gs, 0, none⟩) n n) ∧ w'.cell? ⟨ta, 4, none⟩ = some (.slice rao mo rc)) := fun w' hw =>
    ⟨hw.cell (cell_block _ _ 0 _ _ _ (box_kept HK78.out HBA7.out id)) id, hw.cell (cell_block _ _ 4 _ _ _ hbT) id⟩
   have HS5 : Hid (w8.cell? ⟨ta, 5, none⟩ = some (.slice (some ⟨ga, 0, none⟩) n ca)) := cell_block _ _ 5 _ _ _ hbT
   clear hTI hTr hbT hσ hmo HTO q0 HHO HCA HSS
   go_upto_region 6 with fail
   refine wp_region_held_drew (S := fun w' => KF w8 w') (by kernel_rfl) ((Kept.refl _ _).drew) (fun hHeld => ?_)
   have hKwd := hHeld
   generalize w8.drew = wd2 at *
   iterate 7
    refine tkn (v := ?_) 0 rfl ?_ ?_; rotate_left 1
    ·intro w hSw; obtain ⟨s0, s1⟩ := HSM.out w hSw; go_simp; try with_reducible rfl
    try simp only [Act.put, tdy]
   refine rdy 7 rfl (fun K hK => ?_)
   go_simp
   refine hK.out _ _ (hHeld.alloc _) (fun hHeld => ?_)
   clear hK K
   try simp only [Act.put, tdy]
   refine rdy 8 rfl (fun K hK => ?_)
   go_simp
   refine hK.out _ _ (hKwd.alloc _) (fun hHeld => ?_)
   clear hK K
   try simp only [Act.put, tdy]
   refine wpAnyH_done (by kernel_rfl) ?_ _
   have hk9 := hKwd.alloc (.cells #[.slice (some ⟨gs, 0, none⟩) n n, .slice (some ⟨gh, 0, none⟩) n ch, .slice none 0 0, .slice rao mo rc] 77)
   have hbx := heap_alloc_new wd2 (.cells #[.slice (some ⟨gs, 0, none⟩) n n, .slice (some ⟨gh, 0, none⟩) n ch, .slice none 0 0, .slice rao mo rc] 77)
   have hgx := hKwd.size
   have q5 := hk9.cell HS5.out id
   have HK9 := hid_of hk9
   have HBX9 := hid_of hbx
   have HL9 : Hid (OwnN (wd2.alloc (.cells #[.slice (some ⟨gs, 0, none⟩) n n, .slice (some ⟨gh, 0, none⟩) n ch, .slice none 0 0, .slice rao mo rc] 77)) w8.heap.size (.slice none 0 0) (loopsF σ.again 0)) := World.ownsRow_nil _ _ _ _
   clear hHeld hKwd hk9 hbx HSM HS5
   generalize wd2.alloc (.cells #[.slice (some ⟨gs, 0, none⟩) n n, .slice (some ⟨gh, 0, none⟩) n ch, .slice none 0 0, .slice rao mo rc] 77) = w9 at *
   generalize wd2.heap.size = gx at *
   go_wp2
   clear q5
   go_loopw [51] (fun iv wr => ∃ (k : Nat) (lv : Value), k ≤ n ∧ iv = .int .i64 (k : Int) ∧ Hid (wr.heap[gx]? = some (.cells #[.slice (some ⟨gs, 0, none⟩) n n, .slice (some ⟨gh, 0, none⟩) n ch, lv, .slice rao mo rc] 77 (0, 0))) ∧ Hid (OwnN wr w8.heap.size lv (loopsF σ.again k)) ∧ Hid (KF w8 wr)) (fun iv _ => n - (intOf iv).toNat)
   case atStart => exact ⟨0, _, by omega, rfl, HBX9, HL9, HK9⟩
   case round =>
    clear HBX9 HL9 HK9
    obtain ⟨k, lv, hk, rfl, HBX, HL, HK⟩ := hrel
    by_cases hlt : k < n
    ·have hltI : (k : Int) < (n : Int) := by omega
     have hag := (HTR.out.same HK.out).aAt k (by omega)
     obtain ⟨lao, lc, hlv⟩ := ownsRow_shape HL.out
     have hll := loopsF_len σ.again k
     have HLL : Hid ((loopsF σ.again k).length ≤ 5000) := by unfold Hid; omega
     generalize (loopsF σ.again k).length = ll at hlv
     subst hlv
     have b2 := cell_block _ _ 2 _ _ _ HBX.out
     have hag1 := hag.1
     clear hag hll
     cases hb : σ.again.getD k false with
     | true =>
      rw [hb] at hag1
      obtain ⟨v', w', hr, ho, hk0, hk1⟩ := push_num HL.out (k : Int) HK.out (by have := HLL.out; omega)
      have HR := hid_of hr
      have hbx' := box_kept hk1 HBX.out (fun e => own_box2 HL.out HBX.out (by decide) e)
      have d2 := cell_block _ _ 2 _ _ _ hbx'
      have df := frozen_block _ _ 2 _ _ hbx'
      have HBXN := hid_of (set_block _ _ 2 _ _ _ hbx' v')
      have HKN := hid_of (hk0.setCell (p := ⟨gx, 2, none⟩) (.inl hgx) v')
      have HLN : Hid (OwnN (w'.setCell ⟨gx, 2, none⟩ v') w8.heap.size v' (loopsF σ.again (k + 1))) := by
       unfold Hid
       rw [loopsF_succ, hb, if_pos rfl]
       exact (kept_set w' gx 2 v').ownsRow ho (fun q hq e => own_box2 ho hbx' (by decide) (by rw [hq, e]))
      obtain ⟨ao', c', hv'⟩ := ownsRow_shape ho
      generalize (loopsF σ.again k ++ [(k : Int)]).length = nl' at hv'
      subst hv'
      clear hr ho hk0 hk1 hbx' hb
      go_wp2_with (at_builtin; refine wp_app2 rfl (.tmp 58) (.tmp 60) 30 30 rfl _ _ rfl rfl _ w' HR.out ?_)
      go_roundw
      case rel => exact ⟨k + 1, _, by omega, by go_num, HBXN, HLN, HKN⟩
      case measure => simp [intOf]; omega
     | false =>
      rw [hb] at hag1
      have HLN : Hid (OwnN wr w8.heap.size (.slice lao ll lc) (loopsF σ.again (k + 1))) := by
       unfold Hid
       rw [loopsF_succ, hb, if_neg (by decide)]
       exact HL.out
      clear hb
      go_wp2
      go_roundw
      case rel => exact ⟨k + 1, _, by omega, by go_num, HBX, HLN, HK⟩
      case measure => simp [intOf]; omega
    ·have e : k = n := by omega
     subst e
     have hkr := HK78.out.trans HK.out
     obtain ⟨hx, hkx⟩ := set4 wr (gb + 1) 77 _ _ _ _ (.slice (some ⟨gs, 0, none⟩) k k) (.slice (some ⟨gh, 0, none⟩) k ch) lv (.slice rao mo rc) (box_kept hkr HC2.out id)
     obtain ⟨d0, d1, d2, d3, f0, f1, f2, f3⟩ := look4 (box_kept hkr HC2.out id)
     have hz := box_kept hkx (box_kept hkr HC3.out id) (fun e => by omega)
     obtain ⟨hx2, hkx2⟩ := set3 _ (gb + 2) 38 _ _ _ (.int .i64 0) (.int .i64 0) (.int .i64 0) hz
     obtain ⟨d4, d5, d6, f4, f5, f6⟩ := look3 hz
     obtain ⟨b0, b1, b2, b3, _, _, _, _⟩ := look4 HBX.out
     have hws := HWS.out
     have hBD : BdAt wr W.heap.size gs k (.slice (some ⟨gh, 0, none⟩) k ch) lv (.slice rao mo rc) ⟨ss, hs, loopsF σ.again k, σ.order⟩ :=
      ⟨HSL.out, HRS7.out.same hkr, HHL.out, hkr.ownsRow HOH.out (fun _ _ f => f), own_mono HL.out (Nat.le_trans HK7.out.size HK78.out.size), HK.out.ownsRow (own_mono HTR.out.od HK7.out.size) (fun _ _ f => f)⟩
     have HBDF := hid_of ((hBD.kept (hkx.trans' hkx2) (fun q hq e => by omega) HGS.out).mono HKW.out.size)
     have HX1 := hid_of (box_kept hkx2 hx (fun e => by omega))
     have HX2 := hid_of hx2
     have HKX : Hid (KF w _) := ((HKW.out.trans HK7.out).trans hkr).step (hkx.trans' hkx2) (fun j hj e => by have := HGB.out; omega)
     obtain ⟨lao, lc, hlv⟩ := ownsRow_shape HL.out
     generalize (loopsF σ.again k).length = ll at hlv
     subst hlv
     clear hx hkx hz hx2 hkx2 hBD hkr HC2 HC3 HBX HL HK HTR HOH
     go_wp2
     refine bodyPost_ret (v := .tuple #[.agg #[.slice (some ⟨gs, 0, none⟩) k k, .slice (some ⟨gh, 0, none⟩) k ch, .slice lao ll lc, .slice rao mo rc], .agg #[.int .i64 0, .int .i64 0, .int .i64 0]]) ?_ rfl ⟨HKX.out, by rw [HBD.out]; exact ⟨_, _, _, _, rfl, HBDF.out, HFB.out, Nat.le_trans HKW.out.size HGS.out⟩⟩
     exact results_row2 (by rfl) _ _ (gb + 1) (gb + 2) 77 38 _ _ (0, 0) (0, 0) _ _ (by rfl) HX1.out Tryz.underlying77 rfl size77 (by rfl) HX2.out Tryz.underlying38 rfl size38
end Go.Proofs.YtcaadgcfceommaaGreat

import Derived.Test.YtpfmhibdmehlcaaGreatDoorTOx28
namespace Go.Proofs.YtpfmhibdmehlcaaGreatDoor
open Go.RowKit
set_option linter.unusedVariables false
set_option linter.unusedSimpArgs false
set_option maxRecDepth 100000
def wtL (fs : List Fnc) (x : Wt) : Option Int := if x.jump = true then (match fs[x.fn]? with | some f => lkA f.ls x.nm | none => none) else lkA (nmL 0 fs) x.nm
def setC (f : Fnc) (p : Nat) (v : Int) : Fnc := ⟨f.nm, f.a, f.l, f.r, f.ls, f.code.set p ⟨(f.code.getD p ⟨0, 0⟩).op, v⟩⟩
def setA (fs : List Fnc) (k p : Nat) (v : Int) : List Fnc := match fs[k]? with | some f => fs.set k (setC f p v) | none => fs
def settleF : List Wt → List Fnc → Int ⊕ List Fnc
 | [], fs => .inr fs
 | x :: ws, fs => match wtL fs x with | none => .inl x.ln | some v => settleF ws (setA fs x.fn x.pl v)
theorem map_set_same {α β : Type} (g : α → β) : ∀ (l : List α) (k : Nat) (x y : α), l[k]? = some x → g y = g x → (l.set k y).map g = l.map g
 | [], k, x, y, h, _ => by simp at h
 | a :: l, 0, x, y, h, hg => by
  simp at h
  subst h
  simp [hg]
 | a :: l, k + 1, x, y, h, hg => by
  simp only [List.set_cons_succ, List.map_cons]
  rw [map_set_same g l k x y (by simpa using h) hg]
theorem setA_some {fs : List Fnc} {k : Nat} {f : Fnc} (h : fs[k]? = some f) (p : Nat) (v : Int) : setA fs k p v = fs.set k (setC f p v) := by unfold setA; rw [h]
theorem setA_names {fs : List Fnc} {k : Nat} {f : Fnc} (h : fs[k]? = some f) (p : Nat) (v : Int) : nmL 0 (setA fs k p v) = nmL 0 fs := by
 rw [setA_some h]
 exact nmL_same 0 _ _ (map_set_same Fnc.nm fs k f _ h rfl)
theorem setA_len (fs : List Fnc) (k p : Nat) (v : Int) : (setA fs k p v).length = fs.length := by
 unfold setA
 split <;> simp
def WOk (ws : List Wt) (fs : List Fnc) : Prop := ∀ x ∈ ws, ∃ f, fs[x.fn]? = some f ∧ x.pl < f.code.length
theorem WOk.set {ws : List Wt} {fs : List Fnc} (h : WOk ws fs) (k p : Nat) (v : Int) : WOk ws (setA fs k p v) := fun x hx => by
 obtain ⟨f, h1, h2⟩ := h x hx
 cases hk : fs[k]? with
 | none => unfold setA; rw [hk]; exact ⟨f, h1, h2⟩
 | some g =>
  rw [setA_some hk]
  have hkl := (List.getElem?_eq_some_iff.1 hk).1
  by_cases e : k = x.fn
  ·subst e
   rw [h1] at hk
   cases hk
   exact ⟨setC f p v, by rw [List.getElem?_set_self hkl], by simpa [setC] using h2⟩
  ·exact ⟨f, by rw [List.getElem?_set_ne e]; exact h1, h2⟩
variable {w0 w : World} {r gm : Nat} {R : Rdr} {NL : List (ByteArray × Int)} {dv fv lv wv : Value} {CV : List Value} {GM : List Nat}
theorem icells_set : ∀ (ys : List IN) (p : Nat) (v : Int), p < ys.length → icells (ys.set p ⟨(ys.getD p ⟨0, 0⟩).op, v⟩) = (icells ys).set (p * 2 + 1) (.int .i64 v)
 | [], p, v, h => by simp at h
 | y :: ys, 0, v, h => by simp [icells, IN.cells]
 | y :: ys, p + 1, v, h => by
  have ih := icells_set ys p v (by simpa using h)
  have e : ∀ (a : IN) (l : List IN), icells (a :: l) = .int .i64 a.op :: .int .i64 a.a :: icells l := fun a l => by simp [icells, IN.cells]
  rw [List.set_cons_succ, e, e, show (p + 1) * 2 + 1 = (p * 2 + 1) + 1 + 1 by omega, List.set_cons_succ, List.set_cons_succ, ← ih]
  congr 5
theorem RdX.fill (h : RdX w0 w r R dv fv lv wv gm CV GM) {k p : Nat} {f : Fnc} (hf : R.fs[k]? = some f) (hp : p < f.code.length) {cv : Value} (hcv : CV[k]? = some cv) (gc c : Nat) (hgc : cv = .slice (some ⟨gc, 0, none⟩) f.code.length c) (v : Int) :
  RdX w0 (w.setCell ⟨gc, p * 2 + 1, none⟩ (.int .i64 v)) r ⟨R.mem, R.sized, R.data, setA R.fs k p v, R.ws⟩ dv fv lv wv gm CV GM ∧ OthG w (w.setCell ⟨gc, p * 2 + 1, none⟩ (.int .i64 v)) ∧ w0.heap.size ≤ gc := by
 have hkl := (List.getElem?_eq_some_iff.1 hf).1
 have hco : w.ownsRow w0.heap.size 48 2 cv f.code.length (icells f.code) := h.code.row k cv (codX f) hcv (by rw [List.getElem?_map, hf]; rfl)
 have hco' := hco
 rw [hgc] at hco'
 have hlo := (hco'.lt gc rfl).1
 have hs := kept_set w gc (p * 2 + 1) (.int .i64 v)
 have hch : Ch w (fun q => q = gc) 48 := fun q hq => by
  subst hq
  exact own_is hco' _ rfl
 have hst := (hco'.stored (p * 2 + 1) (.int .i64 v)).1
 have hk1 : Kept (fun q => cv.ownBlock = some q) w (w.setCell ⟨gc, p * 2 + 1, none⟩ (.int .i64 v)) := hs.mono (fun q _ e => by rw [hgc, e]; rfl)
 have hF := h.code.set (k := k) hcv hk1 cv (f.code.length, (icells f.code).set (p * 2 + 1) (.int .i64 v)) (by rw [hgc]; exact hst) (fun q hq => .inl hq)
 have hset : CV.set k cv = CV := by
  apply List.ext_getElem?
  intro i
  by_cases e : k = i
  ·subst e
   rw [List.getElem?_set_self (List.getElem?_eq_some_iff.1 hcv).1, hcv]
  ·rw [List.getElem?_set_ne e]
 rw [hset] at hF
 have hfs : setA R.fs k p v = R.fs.set k (setC f p v) := setA_some hf p v
 have hmap : (R.fs.map codX).set k (f.code.length, (icells f.code).set (p * 2 + 1) (.int .i64 v)) = (setA R.fs k p v).map codX := by
  rw [hfs, List.map_set]
  congr 1
  unfold codX setC
  simp only [List.length_set]
  rw [icells_set f.code p v hp]
 rw [hmap] at hF
 refine ⟨⟨⟨box_ch hs hch h.box (by decide), own_ch hs hch h.data (by decide), ?_, hF, own_ch hs hch h.mps (by decide), fun i g f' h1 h2 => ?_, ?_, h.nodup, h.newer, own_ch hs hch h.wts (by decide), h.kept.setCell (.inl hlo) _, h.lo⟩, ?_⟩, ch_othG hs hch (by decide), hlo⟩
 ·have := own_ch hs hch h.fns (by decide)
  show World.ownsRow _ _ _ _ fv (setA R.fs k p v).length (fnCells (setA R.fs k p v) CV)
  rw [setA_len, fnCells_same (setA R.fs k p v) R.fs CV (by rw [hfs]; exact map_set_same (fun f => (f.a, f.l, f.r)) R.fs k f (setC f p v) hf rfl)]
  exact this
 ·have h2' : (setA R.fs k p v)[i]? = some f' := h2
  rw [hfs] at h2'
  by_cases e : k = i
  ·subst e
   rw [List.getElem?_set_self hkl] at h2'
   cases h2'
   exact (h.maps k g f h1 hf).ch hs hch
  ·rw [List.getElem?_set_ne e] at h2'
   exact (h.maps i g f' h1 h2').ch hs hch
 ·have := h.names.ch hs hch
  show MapIs _ gm (nmL 0 (setA R.fs k p v))
  rw [setA_names hf]
  exact this
 ·show GM.length = (setA R.fs k p v).length
  rw [setA_len]
  exact h.glen
def SetR (w0 w : World) (r : Nat) (R : Rdr) (o : Int ⊕ List Fnc) (e : Ending) (w' : World) : Prop :=
 Kept (fun _ => False) w0 w' ∧ ((∃ fs', o = .inr fs' ∧ e = .returned (.tuple #[.int .i64 0, .int .i64 0]) ∧ RdG w0 w' r ⟨R.mem, R.sized, R.data, fs', R.ws⟩) ∨ (∃ ln, o = .inl ln ∧ e = .returned (.tuple #[.int .i64 ln, .int .i64 142])))
theorem wtCells_at (gm : Nat) (GM : List Nat) : ∀ (ws : List Wt) (i : Nat) (x : Wt), ws[i]? = some x → ∀ j, j < 5 → (wtCells gm GM ws)[i * 5 + j]? = (wtC (wtM gm GM x) x)[j]?
 | [], i, x, h, _, _ => by simp at h
 | y :: ws, 0, x, h, j, hj => by
  simp at h
  subst h
  have e : wtCells gm GM (y :: ws) = wtC (wtM gm GM y) y ++ wtCells gm GM ws := by simp [wtCells]
  rw [e, List.getElem?_append_left (by show 0 * 5 + j < 5; omega)]
  congr 1
  omega
 | y :: ws, i + 1, x, h, j, hj => by
  have e : wtCells gm GM (y :: ws) = wtC (wtM gm GM y) y ++ wtCells gm GM ws := by simp [wtCells]
  rw [e, List.getElem?_append_right (by show 5 ≤ (i + 1) * 5 + j; omega)]
  have : (i + 1) * 5 + j - (wtC (wtM gm GM y) y).length = i * 5 + j := by show (i + 1) * 5 + j - 5 = _; omega
  rw [this]
  exact wtCells_at gm GM ws i x (by simpa using h) j hj
set_option maxHeartbeats 16000000 in
theorem settleG (h : RdG w0 w r R) (hwk : WOk R.ws R.fs) (hwl : R.ws.length ≤ 90000) (hfl : R.fs.length ≤ 90000) (hcl : ∀ f ∈ R.fs, f.code.length ≤ 90000) : Calls Tryz.prog 37 #[.pointer (some ⟨r, 0, none⟩)] w (SetR w0 w r R (settleF R.ws R.fs)) := by
 obtain ⟨dv, fv, lv, wv, gm, CV, GM, hX⟩ := h
 obtain ⟨O, hO⟩ := nmd (settleF R.ws R.fs)
 rw [← hO]
 obtain ⟨mem, sized, data, fs, ws⟩ := R
 simp only at hwk hwl hfl hcl hO hX
 obtain ⟨wa, wc, hwv⟩ := ownsRow_shape hX.wts
 obtain ⟨n, hn⟩ := nmd (ws.length)
 have hwv' : wv = .slice wa n wc := by rw [hwv, hn]
 have HX0 := hid_of hX
 have HO := hid_of hO
 have HN := hid_of hn
 have hnI : (n : Int) ≤ 90000 := by omega
 have HW0 : Hid (WOk ws fs) := hwk
 have HFL : Hid (fs.length ≤ 90000) := hfl
 have HCL : Hid (∀ f ∈ fs, f.code.length ≤ 90000) := hcl
 have c6 := cell_block _ _ 6 _ _ _ hX.box
 clear hX hO hn hwk hwl hfl hcl hwv
 subst hwv'
 go_enter Tryz.func37, Tryz.ntmps37
 go_wp2
 go_loopw [13] (fun iv wr => ∃ (i : Nat) (fs' : List Fnc), iv = .int .i64 (i : Int) ∧ i ≤ n ∧ Hid (RdX w0 wr r ⟨mem, sized, data, fs', ws⟩ dv fv lv (.slice wa n wc) gm CV GM) ∧ Hid (O = settleF (ws.drop i) fs') ∧ Hid (WOk ws fs') ∧ Hid (fs'.length = fs.length) ∧ Hid (∀ f ∈ fs', f.code.length ≤ 90000)) (fun iv _ => n - (intOf iv).toNat)
 case atStart => exact ⟨0, fs, rfl, Nat.zero_le _, HX0, HO, HW0, rfl, HCL⟩
 case round =>
  clear HX0 HW0 HO HCL c6
  obtain ⟨i, fs', rfl, hin, HX, HO, HW, HL, HC⟩ := hrel
  by_cases hlt : i < n
  ·have hil : i < ws.length := by have := HN.out; omega
   have hltI : (i : Int) < (n : Int) := by omega
   obtain ⟨x, hx⟩ := nmd (ws[i]'hil)
   have hxi : ws[i]? = some x := by rw [hx]; exact List.getElem?_eq_getElem hil
   have HD : Hid (O = match wtL fs' x with | none => .inl x.ln | some v => settleF (ws.drop (i + 1)) (setA fs' x.fn x.pl v)) := by
    show O = _
    rw [HO.out, List.drop_eq_getElem_cons hil, ← hx]
    rfl
   obtain ⟨f, hf, hpl⟩ := HW.out x (by rw [hx]; exact List.getElem_mem hil)
   have hkl := (List.getElem?_eq_some_iff.1 hf).1
   have hkL : x.fn < CV.length := by rw [HX.out.toRdZ.clen]; exact hkl
   obtain ⟨cv, hcv⟩ : ∃ cv, CV[x.fn]? = some cv := ⟨_, List.getElem?_eq_getElem hkL⟩
   have hco : wr.ownsRow w0.heap.size 48 2 cv f.code.length (icells f.code) := HX.out.code.row x.fn cv (codX f) hcv (by rw [List.getElem?_map]; show Option.map codX fs'[x.fn]? = _; rw [hf]; rfl)
   obtain ⟨gc, cc, cbs, hgc, hcc, hgb⟩ := own_is0 hco (by omega)
   have hfns := HX.out.fns
   obtain ⟨fg, fc, fbs, hfv, hfc, hfb⟩ := own_is0 hfns (Nat.lt_of_le_of_lt (Nat.zero_le _) hkl)
   have y1 : wr.cell? ⟨fg, x.fn * 4 + 3, none⟩ = some cv := by
    have := hfns.cells (g := fg) (by rw [hfv]; rfl) (x.fn * 4 + 3) cv (by rw [fnCells_at fs' CV x.fn f cv hf hcv 3 (by omega)]; rfl)
    rw [Addr.add_lit, Nat.zero_add] at this
    exact this
   obtain ⟨m, hm⟩ := nmd (wtM gm GM x)
   have hwts := HX.out.wts
   obtain ⟨wg, wcc, wbs, hwg, hwcc, hwb⟩ := own_is0 hwts (by show 0 < ws.length; omega)
   have hwa : wa = some ⟨wg, 0, none⟩ := by injection hwg
   subst hwa
   clear hwg
   have hwc : ∀ j v, j < 5 → (wtC m x)[j]? = some v → wr.cell? ⟨wg, i * 5 + j, none⟩ = some v := fun j v hj hv => by
    have := hwts.cells (g := wg) rfl (i * 5 + j) v (by rw [wtCells_at gm GM ws i x hxi j hj, ← hm]; exact hv)
    rw [Addr.add_lit, Nat.zero_add] at this
    exact this
   have v0 := hwc 0 _ (by omega) rfl
   have v1 := hwc 1 _ (by omega) rfl
   have v2 := hwc 2 _ (by omega) rfl
   have v3 := hwc 3 _ (by omega) rfl
   have v4 := hwc 4 _ (by omega) rfl
   simp only [Nat.add_zero] at v0
   obtain ⟨L, hL, hLK⟩ : ∃ L, MapIs wr m L ∧ wtL fs' x = lkA L x.nm := by
    unfold wtM at hm
    by_cases hj : x.jump = true
    ·rw [if_pos hj, List.getD_eq_getElem?_getD] at hm
     have hgl : x.fn < GM.length := by rw [HX.out.glen]; exact hkl
     have hg : GM[x.fn]? = some m := by rw [hm, List.getElem?_eq_getElem hgl]; rfl
     exact ⟨f.ls, HX.out.maps x.fn m f hg hf, by unfold wtL; rw [if_pos hj, hf]⟩
    ·rw [if_neg hj] at hm
     exact ⟨nmL 0 fs', by rw [hm]; exact HX.out.names, by unfold wtL; rw [if_neg hj]⟩
   rw [hLK] at HD
   have HF := hid_of hf
   have HCV := hid_of hcv
   have HPL := hid_of hpl
   have HKL := hid_of hkl
   have HLM := hid_of hL
   obtain ⟨ln, fn, pl, nm, jump⟩ := x
   simp only at v0 v1 v2 v3 v4 HD HF HCV HPL HKL y1
   have hka : Kept (fun _ => False) wr (wr.alloc (.cells #[.int .i64 ln, .int .i64 (fn : Int), .int .i64 (pl : Int), .string nm, .map (some m)] 130)) := (Kept.refl _ _).alloc _
   have HBA := hid_of (heap_alloc_new wr (.cells #[.int .i64 ln, .int .i64 (fn : Int), .int .i64 (pl : Int), .string nm, .map (some m)] 130))
   have HXA := hid_of (HX.out.same hka)
   have HMA := hid_of (HLM.out.same hka)
   have HYA := hid_of (hka.cell y1 id)
   have HFB := hid_of (box_kept hka hfb id)
   have HGB := hid_of (box_kept hka hgb id)
   obtain ⟨nf, hnf⟩ := nmd (fs'.length)
   obtain ⟨nc, hnc⟩ := nmd (f.code.length)
   have hfv' : fv = .slice (some ⟨fg, 0, none⟩) nf fc := by rw [hnf]; exact hfv
   have hgc' : cv = .slice (some ⟨gc, 0, none⟩) nc cc := by rw [hnc]; exact hgc
   have hfnI : (fn : Int) < (nf : Int) := by have := HKL.out; omega
   have hplI : (pl : Int) < (nc : Int) := by have := HPL.out; omega
   have hfnB : (fn : Int) ≤ 90000 := by have := HKL.out; have := HL.out; have := HFL.out; omega
   have hplB : (pl : Int) ≤ 90000 := by have := HPL.out; have := HC.out f (List.mem_of_getElem? HF.out); omega
   have HGC := hid_of hgc'
   have HFV := hid_of hfv'
   have HNCE := hid_of hnc
   clear hx hxi hf hpl hcv hco hgc hcc hgb hfns hfv hfb y1 hm hwts hwb hwc hL hLK hka HX hkL HO hfv' hgc' hnf hnc hkl HLM hil hwcc hfc
   go_upto_region 4 with fail
   generalize wr.alloc (.cells #[.int .i64 ln, .int .i64 (fn : Int), .int .i64 (pl : Int), .string nm, .map (some m)] 130) = wb at *
   generalize wr.heap.size = pp at *
   clear v0 v1 v2 v3 v4
   obtain ⟨u0, u1, u2, u3, u4⟩ : wb.cell? ⟨pp, 0, none⟩ = some (.int .i64 ln) ∧ wb.cell? ⟨pp, 1, none⟩ = some (.int .i64 (fn : Int)) ∧ wb.cell? ⟨pp, 2, none⟩ = some (.int .i64 (pl : Int)) ∧ wb.cell? ⟨pp, 3, none⟩ = some (.string nm) ∧ wb.cell? ⟨pp, 4, none⟩ = some (.map (some m)) :=
    ⟨cell_block _ _ 0 _ _ _ HBA.out, cell_block _ _ 1 _ _ _ HBA.out, cell_block _ _ 2 _ _ _ HBA.out, cell_block _ _ 3 _ _ _ HBA.out, cell_block _ _ 4 _ _ _ HBA.out⟩
   have hlk := HMA.out.run_look nm true
   cases hlv : lkA L nm with
   | none =>
    rw [hlv] at hlk HD
    simp only [Option.isSome_none, if_true] at hlk
    have HE : Hid (O = .inl ln) := HD.out
    clear HD hlv
    go_wp2
    refine bodyPost_ret (results_tmp2 rfl _ _ _) rfl ?_
    exact ⟨HXA.out.kept, .inr ⟨ln, HE.out, rfl⟩⟩
   | some v =>
    rw [hlv] at hlk HD
    simp only [Option.isSome_some, if_true] at hlk
    have HE : Hid (O = settleF (ws.drop (i + 1)) (setA fs' fn pl v)) := HD.out
    clear HD hlv
    go_upto_region 7 with fail
    clear u0 u1 u2 u3 u4 hlk
    have hkd : Kept (fun _ => False) wb wb.drew := (Kept.refl _ _).drew
    have HXD := hid_of (HXA.out.same hkd)
    have hbb := box_kept hkd HBA.out id
    have hyy := hkd.cell HYA.out id
    have hffb := box_kept hkd HFB.out id
    have hggb := box_kept hkd HGB.out id
    clear hkd HXA HBA HYA HFB HGB
    refine wp_region_held_drew (S := fun w' => Kept (fun q => q = gc) wb.drew w') (by kernel_rfl) (Kept.refl _ _) (fun hHeld => ?_)
    generalize wb.drew = wd at *
    have HSM : Hid (∀ w', Kept (fun q => q = gc) wd w' → w'.cell? ⟨r, 2, none⟩ = some (.slice (some ⟨fg, 0, none⟩) nf fc) ∧ w'.cell? ⟨pp, 1, none⟩ = some (.int .i64 (fn : Int)) ∧ w'.cell? ⟨pp, 2, none⟩ = some (.int .i64 (pl : Int)) ∧ w'.cell? ⟨fg, fn * 4 + 3, none⟩ = some (.slice (some ⟨gc, 0, none⟩) nc cc)) := fun w' hw =>
     ⟨by rw [← HFV.out]; exact hw.cell (cell_block _ _ 2 _ _ _ HXD.out.box) (box_ne HXD.out.box hggb (by decide)), hw.cell (cell_block _ _ 1 _ _ _ hbb) (box_ne hbb hggb (by decide)), hw.cell (cell_block _ _ 2 _ _ _ hbb) (box_ne hbb hggb (by decide)), by rw [← HGC.out]; exact hw.cell hyy (box_ne hffb hggb (by decide))⟩
    have hcod : wd.ownsRow w0.heap.size 48 2 cv f.code.length (icells f.code) := HXD.out.code.row fn cv (codX f) HCV.out (by rw [List.getElem?_map]; show Option.map codX fs'[fn]? = _; rw [HF.out]; rfl)
    have hcod' := hcod
    rw [HGC.out, ← HNCE.out] at hcod'
    have hj : pl * 2 + 1 < (icells f.code).length := by rw [icells_length]; have := HPL.out; omega
    have l0 : wd.cell? ⟨gc, pl * 2 + 1, none⟩ = some ((icells f.code)[pl * 2 + 1]'hj) := by
     rw [hcod'.cellAt (pl * 2 + 1) (by have := HPL.out; have := HNCE.out; omega)]
     exact List.getElem?_eq_getElem hj
    have lf0 := hcod'.frozenAt (pl * 2 + 1)
    have HKS6 := hid_of (hHeld.setCell (p := ⟨gc, pl * 2 + 1, none⟩) (.inr rfl) (.int .i64 v))
    obtain ⟨hx6, ho6, _⟩ := HXD.out.fill (k := fn) (p := pl) HF.out HPL.out HCV.out gc cc (by rw [HGC.out, HNCE.out]) v
    have HX6 : Hid (RdX w0 (wd.setCell ⟨gc, pl * 2 + 1, none⟩ (.int .i64 v)) r ⟨mem, sized, data, setA fs' fn pl v, ws⟩ dv fv lv (.slice (some ⟨wg, 0, none⟩) n wc) gm CV GM) := hx6
    generalize (icells f.code)[pl * 2 + 1]'hj = old at *
    clear hcod hcod' hj hx6 ho6 hbb hyy hffb hggb
    iterate 4
     refine tkn (v := ?_) 0 rfl ?_ ?_; rotate_left 1
     ·intro w hSw; go_simp; try with_reducible rfl
     try simp only [Act.put, tdy]
    iterate 1
     refine tkn (v := ?_) 4 rfl ?_ ?_; rotate_left 1
     ·intro w hSw; obtain ⟨s0, s1, s2, s3⟩ := HSM.out w hSw; go_simp; try with_reducible rfl
     try simp only [Act.put, tdy]
    iterate 2
     refine tkn (v := ?_) 5 rfl ?_ ?_; rotate_left 1
     ·intro w hSw; go_simp; try with_reducible rfl
     try simp only [Act.put, tdy]
    iterate 1
     refine tkn (v := ?_) 7 rfl ?_ ?_; rotate_left 1
     ·intro w hSw; obtain ⟨s0, s1, s2, s3⟩ := HSM.out w hSw; go_simp; try with_reducible rfl
     try simp only [Act.put, tdy]
    iterate 2
     refine tkn (v := ?_) 8 rfl ?_ ?_; rotate_left 1
     ·intro w hSw; go_simp; try with_reducible rfl
     try simp only [Act.put, tdy]
    iterate 1
     refine tkn (v := ?_) 10 rfl ?_ ?_; rotate_left 1
     ·intro w hSw; obtain ⟨s0, s1, s2, s3⟩ := HSM.out w hSw; go_simp; try with_reducible rfl
     try simp only [Act.put, tdy]
    iterate 2
     refine tkn (v := ?_) 11 rfl ?_ ?_; rotate_left 1
     ·intro w hSw; go_simp; try with_reducible rfl
     try simp only [Act.put, tdy]
    iterate 1
     refine tkn (v := ?_) 13 rfl ?_ ?_; rotate_left 1
     ·intro w hSw; obtain ⟨s0, s1, s2, s3⟩ := HSM.out w hSw; go_simp; try with_reducible rfl
     try simp only [Act.put, tdy]
    iterate 3
     refine tkn (v := ?_) 14 rfl ?_ ?_; rotate_left 1
     ·intro w hSw; go_simp; try with_reducible rfl
     try simp only [Act.put, tdy]
    refine rdy 17 rfl (fun K hK => ?_)
    go_simp
    refine hK.out _ _ HKS6.out (fun hHeld => ?_)
    clear hK K
    try simp only [Act.put, tdy]
    refine wpAnyH_done (by kernel_rfl) ?_ _
    have HW6 := hid_of (HW.out.set fn pl v)
    have HL6 : Hid ((setA fs' fn pl v).length = fs.length) := by show _ = _; rw [setA_len]; exact HL.out
    have HC6 : Hid (∀ f ∈ setA fs' fn pl v, f.code.length ≤ 90000) := fun f' hf' => by
     rw [setA_some HF.out] at hf'
     rcases List.mem_or_eq_of_mem_set hf' with h | h
     ·exact HC.out f' h
     ·rw [h]
      show (f.code.set _ _).length ≤ _
      rw [List.length_set]
      exact HC.out f (List.mem_of_getElem? HF.out)
    clear l0 lf0 HSM HKS6 hHeld HXD HF HCV
    go_wp2
    go_roundw
    case rel => exact ⟨i + 1, setA fs' fn pl v, by go_num, by omega, HX6, HE, HW6, HL6, HC6⟩
    case measure => simp [intOf]; omega
  ·have hlt' : ¬ (i : Int) < (n : Int) := by omega
   have HE : Hid (O = .inr fs') := by
    show O = _
    have := HO.out
    rw [List.drop_of_length_le (by have := HN.out; omega)] at this
    exact this
   clear HO
   go_wp2
   refine bodyPost_ret (results_tmp2 rfl _ _ _) rfl ?_
   exact ⟨HX.out.kept, .inl ⟨fs', HE.out, rfl, ⟨_, _, _, _, _, _, _, HX.out⟩⟩⟩
end Go.Proofs.YtpfmhibdmehlcaaGreatDoor
namespace Go.Proofs.YtpfmhibdmehlcaaGreatDoor
open Go.RowKit
set_option linter.unusedVariables false
set_option linter.unusedSimpArgs false
set_option maxRecDepth 100000
def linesL : List UInt8 → List (List UInt8)
 | [] => [[]]
 | b :: l => if b = 10 then [] :: linesL l else match linesL l with | [] => [[b]] | x :: xs => (b :: x) :: xs
theorem linesL_ne : ∀ l : List UInt8, linesL l ≠ []
 | [] => by simp [linesL]
 | b :: l => by
  rw [linesL]
  split
  ·simp
  ·split <;> simp
theorem linesL_cut : ∀ (a b : List UInt8), (10 : UInt8) ∉ a → linesL (a ++ 10 :: b) = a :: linesL b
 | [], b, _ => by rw [List.nil_append, linesL, if_pos rfl]
 | c :: a, b, h => by
  have hc : ¬ c = 10 := fun e => h (by rw [e]; exact List.mem_cons_self)
  rw [List.cons_append, linesL, if_neg hc, linesL_cut a b (fun e => h (List.mem_cons_of_mem _ e))]
theorem linesL_one : ∀ (a : List UInt8), (10 : UInt8) ∉ a → linesL a = [a]
 | [], _ => rfl
 | c :: a, h => by
  have hc : ¬ c = 10 := fun e => h (by rw [e]; exact List.mem_cons_self)
  rw [linesL, if_neg hc, linesL_one a (fun e => h (List.mem_cons_of_mem _ e))]
theorem linesL_len : ∀ (l : List UInt8), (linesL l).length ≤ l.length + 1 ∧ ∀ x ∈ linesL l, x.length ≤ l.length
 | [] => by simp [linesL]
 | b :: l => by
  obtain ⟨h1, h2⟩ := linesL_len l
  rw [linesL]
  split
  ·simp only [List.length_cons]
   refine ⟨by omega, fun x hx => ?_⟩
   rcases List.mem_cons.1 hx with rfl | hx
   ·simp
   ·have := h2 x hx; omega
  ·cases e : linesL l with
   | nil => exact absurd e (linesL_ne l)
   | cons y ys =>
    rw [e] at h1 h2
    simp only [List.length_cons] at h1 ⊢
    refine ⟨by omega, fun x hx => ?_⟩
    rcases List.mem_cons.1 hx with rfl | hx
    ·have := h2 y List.mem_cons_self
     simp only [List.length_cons]
     omega
    ·have := h2 x (List.mem_cons_of_mem _ hx)
     omega
theorem idx_spec : ∀ l : List UInt8, (Lib.index l [10] = -1 ∧ (10 : UInt8) ∉ l) ∨ ∃ a b, l = a ++ 10 :: b ∧ (10 : UInt8) ∉ a ∧ Lib.index l [10] = (a.length : Int)
 | [] => .inl ⟨rfl, by simp⟩
 | c :: l => by
  by_cases hc : c = 10
  ·subst hc
   exact .inr ⟨[], l, rfl, by simp, by rw [Lib.index]; simp [List.isPrefixOf]⟩
  ·have hp : ([10] : List UInt8).isPrefixOf (c :: l) = false := by simp [List.isPrefixOf, Ne.symm hc]
   have hix : Lib.index (c :: l) [10] = if Lib.index l [10] == -1 then -1 else Lib.index l [10] + 1 := by rw [Lib.index, hp]; simp
   rcases idx_spec l with ⟨h1, h2⟩ | ⟨a, b, h1, h2, h3⟩
   ·refine .inl ⟨by rw [hix, h1]; rfl, fun h => ?_⟩
    rcases List.mem_cons.1 h with e | e
    ·exact hc e.symm
    ·exact h2 e
   ·refine .inr ⟨c :: a, b, by rw [h1]; rfl, fun h => ?_, ?_⟩
    ·rcases List.mem_cons.1 h with e | e
     ·exact hc e.symm
     ·exact h2 e
    ·rw [hix, if_neg (by rw [beq_iff_eq]; omega), h3]
     simp
theorem ext_list (s : ByteArray) (i j : Nat) : (s.extract i j).data.toList = (s.data.toList.drop i).take (j - i) := by
 simp only [ByteArray.data_extract, Array.toList_extract, List.extract]
theorem split_lines : ∀ (k : Nat) (s : ByteArray), Lib.countB s nlB = k → (Lib.splitB nlB 0 k s).map (fun t => t.data.toList) = linesL s.data.toList
 | 0, s, hk => by
  rcases idx_spec s.data.toList with ⟨h1, h2⟩ | ⟨a, b, h1, h2, h3⟩
  ·rw [Lib.splitB_zero, linesL_one _ h2]
   rfl
  ·have := Lib.countB_hit s nlB a.length (by decide) h3
   omega
 | k + 1, s, hk => by
  rcases idx_spec s.data.toList with ⟨h1, h2⟩ | ⟨a, b, h1, h2, h3⟩
  ·have := Lib.countB_miss s nlB h1
   omega
  ·have hc := Lib.countB_hit s nlB a.length (by decide) h3
   rw [Lib.splitB_hit nlB 0 k s a.length h3, List.map_cons, split_lines k _ (by omega), h1, linesL_cut a b h2]
   have e1 : (s.extract 0 (a.length + 0)).data.toList = a := by rw [ext_list, h1]; simp
   have e2 : (s.extract (a.length + nlB.size) s.size).data.toList = b := by
    rw [ext_list, h1, show nlB.size = 1 from rfl]
    have hs : s.size = a.length + 1 + b.length := by rw [Lib.size_eq, h1]; simp; omega
    rw [show (a ++ 10 :: b).drop (a.length + 1) = b by rw [← List.drop_drop, List.drop_left]; rfl]
    exact List.take_of_length_le (by omega)
   rw [e1, e2]
def toB (l : List UInt8) : ByteArray := ⟨l.toArray⟩
theorem toB_back (s : ByteArray) : toB s.data.toList = s := by cases s; simp [toB]
theorem toB_list (l : List UInt8) : (toB l).data.toList = l := by simp [toB]
theorem split_is2 (s : ByteArray) : Lib.splitB nlB 0 (Lib.countB s nlB) s = (linesL s.data.toList).map toB := by
 rw [← split_lines _ s rfl, List.map_map]
 conv => lhs; rw [← List.map_id (Lib.splitB nlB 0 (Lib.countB s nlB) s)]
 apply List.map_congr_left
 intro t _
 exact (toB_back t).symm
theorem count_is2 (s : ByteArray) : Lib.countB s nlB + 1 = (linesL s.data.toList).length := by
 rw [← Lib.splitB_all nlB (by decide) 0 _ s rfl, split_is2, List.length_map]
def fnG (f : Fnc) : FN := ⟨f.a, f.l, f.r, f.code⟩
def pgG (R : Rdr) : PG := ⟨R.mem, R.data, R.fs.map fnG⟩
variable {w0 w : World} {r gm : Nat} {R : Rdr} {NL : List (ByteArray × Int)} {dv fv lv wv : Value} {CV : List Value} {GM : List Nat}
theorem rowI_of {B : Nat} {v : Value} {ys : List IN} (h : w.ownsRow B 48 2 v ys.length (icells ys)) : RowI w v ys := by
 rcases h.2 with ⟨rfl, h0⟩ | ⟨g, cap, cur, rfl, _⟩
 ·exact .inl ⟨List.length_eq_zero_iff.1 h0, _, _, rfl⟩
 ·refine .inr ⟨g, 0, cap, rfl, fun i y hy j v hv => ?_⟩
  have hj : j < 2 := (List.getElem?_eq_some_iff.1 hv).1
  have := h.cells (g := g) rfl (i * 2 + j) v (by rw [icells_at ys i y hy j hj]; exact hv)
  rw [Addr.add_lit, Nat.zero_add] at this
  show w.cell? ⟨g, 0 + i * 2 + j, none⟩ = _
  rw [Nat.zero_add]
  exact this
theorem RdX.pg (h : RdX w0 w r R dv fv lv wv gm CV GM) : PgIs w w.heap.size (.agg #[.int .i64 R.mem, dv, fv]) (pgG R) := by
 refine ⟨dv, fv, rfl, isB_own h.data, fun q hq => (h.data.lt q hq).2, ?_⟩
 have hf := h.fns
 by_cases h0 : R.fs = []
 ·rw [h0] at hf
  rcases hf.2 with ⟨rfl, _⟩ | ⟨g, cap, cur, rfl, _⟩
  ·exact .inl ⟨by simp [pgG, h0], _, _, rfl⟩
  ·exact .inl ⟨by simp [pgG, h0], _, _, rfl⟩
 ·obtain ⟨g, c, cs, hfv, _, _⟩ := own_is0 hf (List.length_pos_iff.2 h0)
  refine .inr ⟨g, 0, c, by rw [hfv]; simp [pgG], (hf.lt g (by rw [hfv]; rfl)).2, fun i f hi => ?_⟩
  have hi' : (R.fs.map fnG)[i]? = some f := hi
  rw [List.getElem?_map] at hi'
  cases hfi : R.fs[i]? with
  | none => rw [hfi] at hi'; cases hi'
  | some f0 =>
   rw [hfi] at hi'
   cases hi'
   have hil := (List.getElem?_eq_some_iff.1 hfi).1
   have hcl : i < CV.length := by rw [h.toRdZ.clen]; exact hil
   have hcv : CV[i]? = some (CV[i]'hcl) := List.getElem?_eq_getElem hcl
   have hco : w.ownsRow w0.heap.size 48 2 (CV[i]'hcl) f0.code.length (icells f0.code) := h.code.row i _ (codX f0) hcv (by rw [List.getElem?_map, hfi]; rfl)
   refine ⟨CV[i]'hcl, fun j v hv => ?_, rowI_of hco, fun q hq _ => (hco.lt q hq).2⟩
   have hj : j < 4 := (List.getElem?_eq_some_iff.1 hv).1
   have := hf.cells (g := g) (by rw [hfv]; rfl) (i * 4 + j) v (by rw [fnCells_at R.fs CV i f0 _ hfi hcv j hj]; exact hv)
   rw [Addr.add_lit, Nat.zero_add] at this
   show w.cell? ⟨g, 0 + i * 4 + j, none⟩ = _
   rw [Nat.zero_add]
   exact this
def I64 (x : Int) : Prop := -9223372036854775808 ≤ x ∧ x < 9223372036854775808
structure Fnc.Ok (f : Fnc) : Prop where
 a : I64 f.a
 l : I64 f.l
 r : I64 f.r
 code : ∀ y ∈ f.code, y.Ok
 ls : ∀ x ∈ f.ls, I64 x.2
structure Rdr.Nums (R : Rdr) : Prop where
 mem : I64 R.mem
 data : ∀ x ∈ R.data, 0 ≤ x ∧ x ≤ 255
 fns : ∀ f ∈ R.fs, f.Ok
theorem pgG_ok (h : R.Nums) (hok : R.Ok) : (pgG R).Ok := by
 refine ⟨h.mem, ⟨h.data, by have := hok.data; show R.data.length ≤ _; omega⟩, fun f hf => ?_, ?_⟩
 ·obtain ⟨f0, h0, rfl⟩ := List.mem_map.1 (show f ∈ R.fs.map fnG from hf)
  have h1 := h.fns f0 h0
  have h2 := hok.code f0 h0
  exact ⟨h1.a, h1.l, h1.r, h1.code, by show f0.code.length * 16 ≤ _; omega⟩
 ·show (R.fs.map fnG).length * 48 ≤ _
  rw [List.length_map]
  have := hok.fs
  omega
end Go.Proofs.YtpfmhibdmehlcaaGreatDoor

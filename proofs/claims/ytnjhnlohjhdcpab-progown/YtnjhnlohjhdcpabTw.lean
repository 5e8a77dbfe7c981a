/-
  prog.Twin by contract.
-/
import Derived.Test.YtnjhnlohjhdcpabLi
import Derived.Test.YtnjhnlohjhdcpabSh
import Derived.Test.YtnjhnlohjhdcpabMx
namespace Go.Proofs.Ytnjhnlohjhdcpab
open Go.ChangeShapes Go.WideShapes Go.ChangeAt Go.RowKit Go.Deep
set_option linter.unusedVariables false
set_option linter.unusedSimpArgs false
set_option maxRecDepth 100000

/-- Instructions behind instructions of its own. -/
theorem app_rows (W : World) (v : Value) (base : Nat) (l : List IN) (ao : Option Addr) (c : Nat) (ys : List IN) (hown : W.ownsRow base 46 2 v l.length (icells l)) (hr : RowI W (.slice ao ys.length c) ys) (hb : base ≤ W.heap.size) (hsz : (l.length + ys.length) * 16 ≤ 140737488355328) (ha : ao = none → ys.length = 0) :
    ∃ (o2 : Option Addr) (c2 : Nat) (w' : World), (Builtin.append_ #[42, 42] 42 #[v, .slice ao ys.length c]).run Try.prog W = .ok (.slice o2 (l ++ ys).length c2) w' ∧ w'.ownsRow base 46 2 (.slice o2 (l ++ ys).length c2) (l ++ ys).length (icells (l ++ ys)) ∧ Kept (fun k => v.ownBlock = some k) W w' := by
  obtain ⟨i0, hi, hz0, hz1, hz2⟩ := info_parts Try.info46
  cases ao with
  | none =>
    have h0 := ha rfl
    have e : ys = [] := List.length_eq_zero_iff.1 h0
    subst e
    have hrun : (Builtin.append_ #[42, 42] 42 #[v, .slice none 0 c]).run Try.prog W = .ok v W := by
      rcases hown.2 with ⟨rfl, h1⟩ | ⟨g, cap, cur, rfl, hb, hg, hn, hm, hs, ht⟩
      · simp [Builtin.append_, run_underlying Try.underlying42, sizeOf, typeInfo, hi, Builtin.lenOf, Builtin.firstCells]
      · have h1 : l.length ≤ cap := hn
        simp [Builtin.append_, run_underlying Try.underlying42, sizeOf, typeInfo, hi, Builtin.lenOf, Builtin.firstCells, h1, storeCells]
    obtain ⟨o2, c2, rfl⟩ := ownsRow_shape hown
    rw [List.append_nil]
    exact ⟨o2, c2, W, hrun, hown, Kept.refl _ _⟩
  | some p =>
    obtain ⟨v', w', h1, h2, h3, _⟩ := run_append_own (P := Try.prog) W base 42 42 46 i0 _ 2 16 Try.underlying42 hi hz0 hz1 hz2 rfl (by decide) v l.length (icells l) hown p ys.length c (icells ys) (by rw [icells_length]; omega) (rowI_cells hr) (icells_one ys) (by unfold maxLen; omega) (by omega) hb
    rw [← icells_append] at h2
    obtain ⟨o2, c2, rfl⟩ := ownsRow_shape h2
    rw [List.length_append]
    exact ⟨o2, c2, w', h1, h2, (Kept.refl (fun k => v.ownBlock = some k) W).grown h3 (fun k hk => .inr hk)⟩
theorem fcells_len : ∀ (fs : List FN) (cvs : List Value), cvs.length = fs.length → (fcells fs cvs).length = fs.length * 4
  | [], [], _ => rfl
  | [], _ :: _, h => by simp at h
  | _ :: _, [], h => by simp at h
  | f :: fs, c :: cvs, h => by
    show (f.cells c ++ fcells fs cvs).length = _
    rw [List.length_append, fcells_len fs cvs (by simpa using h), List.length_cons]
    simp [FN.cells]
    omega
theorem fcells_one : ∀ (fs : List FN) (cvs : List Value), (∀ c ∈ cvs, c.oneCell' = true) → ∀ u ∈ fcells fs cvs, u.oneCell' = true
  | [], _, _, u, hu => by simp [fcells] at hu
  | _ :: _, [], _, u, hu => by simp [fcells] at hu
  | f :: fs, c :: cvs, h, u, hu => by
    have hu' : u ∈ f.cells c ++ fcells fs cvs := hu
    rcases List.mem_append.1 hu' with hu | hu
    · simp [FN.cells] at hu
      rcases hu with rfl | rfl | rfl | rfl
      · rfl
      · rfl
      · rfl
      · exact h _ (by simp)
    · exact fcells_one fs cvs (fun c hc => h c (by simp [hc])) u hu
/-- The slices of the codes of functions that lie in a row. -/
theorem RowF.cvs {w : World} {B : Nat} {ao : Option Addr} {c : Nat} {fs : List FN} (h : RowF w B (.slice ao fs.length c) fs) :
    ∃ cvs : List Value, cvs.length = fs.length ∧ (∀ p, ao = some p → ∀ j u, (fcells fs cvs)[j]? = some u → w.cell? (p.add j) = some u) ∧ (∀ (i : Nat) (f : FN) (cv : Value), fs[i]? = some f → cvs[i]? = some cv → RowI w cv f.code ∧ ∀ q, cv.ownBlock = some q → 0 < f.code.length → q < B) ∧ (∀ cv ∈ cvs, cv.oneCell' = true) ∧ (ao = none → fs.length = 0) := by
  rcases h with ⟨rfl, _⟩ | ⟨g, o, c', e, hg, h⟩
  · exact ⟨[], rfl, fun p _ j u hj => by simp [fcells] at hj, fun i f cv hf => by simp at hf, fun cv hc => by simp at hc, fun _ => rfl⟩
  · cases e
    obtain ⟨F, hF⟩ := choose_lt (n := fs.length) (p := fun i (cv : Value) => ∀ f, fs[i]? = some f → w.rangeAt g (o + i * 4) (f.cells cv) ∧ RowI w cv f.code ∧ ∀ q, cv.ownBlock = some q → 0 < f.code.length → q < B) (fun i hi => by
      obtain ⟨cv, h1, h2, h3⟩ := h i _ (List.getElem?_eq_getElem hi)
      refine ⟨cv, fun f hf => ?_⟩
      rw [List.getElem?_eq_getElem hi] at hf
      cases hf
      exact ⟨h1, h2, h3⟩)
    have hl : ((List.range fs.length).map F).length = fs.length := by simp
    have hget : ∀ i, i < fs.length → ((List.range fs.length).map F)[i]? = some (F i) := fun i hi => by simp [hi]
    refine ⟨(List.range fs.length).map F, hl, fun p hp j u hj => ?_, fun i f cv hf hc => ?_, fun cv hc => ?_, fun e => by cases e⟩
    · cases hp
      have hjl := (List.getElem?_eq_some_iff.1 hj).1
      rw [fcells_len _ _ hl] at hjl
      have hi : j / 4 < fs.length := by omega
      obtain ⟨f, hf⟩ : ∃ f, fs[j / 4]? = some f := ⟨_, List.getElem?_eq_getElem hi⟩
      have hat := fcells_at fs _ (j / 4) f _ hf (hget _ hi) (j % 4) (by omega)
      rw [show j / 4 * 4 + j % 4 = j by omega, hj] at hat
      have := (hF _ hi f hf).1 (j % 4) u hat.symm
      rw [Addr.add_lit, show o + j = o + j / 4 * 4 + j % 4 by omega]
      exact this
    · have hi : i < fs.length := (List.getElem?_eq_some_iff.1 hf).1
      rw [hget i hi] at hc
      cases hc
      exact (hF i hi f hf).2
    · obtain ⟨i, hi, rfl⟩ := List.mem_map.1 hc
      have hi' := List.mem_range.1 hi
      obtain ⟨ao', c', e⟩ := ((hF i hi' _ (List.getElem?_eq_getElem hi')).2.1).shape
      rw [e]
      rfl
set_option maxHeartbeats 2000000 in
theorem apart_b (v : Value) (xs : List Int) (w : World) (hx : IsB w v xs) (hl : xs.length ≤ 140737488355328) :
    Calls Try.prog 24 #[v] w fun e w' => ∃ v', e = .returned v' ∧ w'.ownsRow w.heap.size 5 1 v' xs.length (xs.map (Value.int .u8)) ∧ Kept (fun _ => False) w w' := by
  obtain ⟨v', w', hr, h2, h3⟩ := app_any w (.slice none 0 0) 0 w.heap.size [] 22 v xs (World.ownsRow_nil _ _ _ _) hx (Nat.le_refl _) (by omega)
  rw [Nat.zero_add, List.nil_append] at h2
  have hk : Kept (fun _ => False) w w' := (Kept.refl _ _).grown h3 (fun k hk => by cases hk)
  obtain ⟨ao, c, rfl⟩ := hx.shape
  have HR := hid_of hr
  have H2 := hid_of h2
  have HK := hid_of hk
  clear hx hr h2 h3 hk
  generalize xs.length = n at *
  go_enter Try.func24, Try.ntmps24
  go_wp2_with (at_builtin; refine wp_app1 rfl (.const (.slice none 0 0)) (.tmp 3) 22 22 rfl _ _ rfl rfl v' w' HR.out ?_)
  go_ret
  exact ⟨v', rfl, H2.out, HK.out⟩
set_option maxHeartbeats 2000000 in
theorem apart_i (v : Value) (ys : List IN) (w : World) (hx : RowI w v ys) (hl : ys.length * 16 ≤ 140737488355328) :
    Calls Try.prog 26 #[v] w fun e w' => ∃ v', e = .returned v' ∧ w'.ownsRow w.heap.size 46 2 v' ys.length (icells ys) ∧ Kept (fun _ => False) w w' := by
  obtain ⟨ao, c, rfl⟩ := hx.shape
  obtain ⟨o2, c2, w', hr, h2, hk⟩ := app_rows w (.slice none 0 0) w.heap.size [] ao c ys (World.ownsRow_nil _ _ _ _) hx (Nat.le_refl _) (by simpa using hl) (fun e => by
    subst e
    rcases hx with ⟨e, _⟩ | ⟨g, o, c', e, _⟩
    · rw [e]; rfl
    · cases e)
  rw [List.nil_append] at hr h2
  have HR := hid_of hr
  have H2 := hid_of h2
  have HK : Hid (Kept (fun _ => False) w w') := hk.mono (fun k _ e => by cases e)
  clear hx hr h2 hk
  generalize ys.length = n at *
  go_enter Try.func26, Try.ntmps26
  go_wp2_with (at_builtin; refine wp_app1 rfl (.const (.slice none 0 0)) (.tmp 3) 42 42 rfl _ _ rfl rfl _ w' HR.out ?_)
  go_ret
  exact ⟨_, rfl, H2.out, HK.out⟩
set_option maxHeartbeats 2000000 in
theorem apart_f (ao : Option Addr) (c : Nat) (fs : List FN) (cvs : List Value) (w : World) (hl : cvs.length = fs.length) (hc : ∀ p, ao = some p → ∀ j u, (fcells fs cvs)[j]? = some u → w.cell? (p.add j) = some u) (h1 : ∀ cv ∈ cvs, cv.oneCell' = true) (h0 : ao = none → fs.length = 0) (hsz : fs.length * 48 ≤ 140737488355328) :
    Calls Try.prog 25 #[.slice ao fs.length c] w fun e w' => ∃ v', e = .returned v' ∧ w'.ownsRow w.heap.size 44 4 v' fs.length (fcells fs cvs) ∧ Kept (fun _ => False) w w' := by
  obtain ⟨i0, hi, hz0, hz1, hz2⟩ := info_parts Try.info44
  have key : ∃ v' w', (Builtin.append_ #[23, 23] 23 #[.slice none 0 0, .slice ao fs.length c]).run Try.prog w = .ok v' w' ∧ w'.ownsRow w.heap.size 44 4 v' fs.length (fcells fs cvs) ∧ Kept (fun _ => False) w w' := by
    cases ao with
    | none =>
      have h9 := h0 rfl
      have e : fs = [] := List.length_eq_zero_iff.1 h9
      subst e
      refine ⟨_, w, ?_, World.ownsRow_nil _ _ _ _, Kept.refl _ _⟩
      simp [Builtin.append_, run_underlying Try.underlying23, sizeOf, typeInfo, hi, Builtin.lenOf, Builtin.firstCells]
    | some p =>
      obtain ⟨v', w', hr, h2, h3, _⟩ := run_append_own (P := Try.prog) w w.heap.size 23 23 44 i0 _ 4 48 Try.underlying23 hi hz0 hz1 hz2 rfl (by decide) (.slice none 0 0) 0 [] (World.ownsRow_nil _ _ _ _) p fs.length c (fcells fs cvs) (fcells_len _ _ hl) (hc p rfl) (fcells_one _ _ h1) (by unfold maxLen; omega) (by omega) (Nat.le_refl _)
      rw [Nat.zero_add, List.nil_append] at h2
      exact ⟨v', w', hr, h2, (Kept.refl _ _).grown h3 (fun k hk => by cases hk)⟩
  obtain ⟨v', w', hr, h2, hk⟩ := key
  have HR := hid_of hr
  have H2 := hid_of h2
  have HK := hid_of hk
  clear hc h1 h0 hr h2 hk hl
  generalize fs.length = n at *
  go_enter Try.func25, Try.ntmps25
  go_wp2_with (at_builtin; refine wp_app1 rfl (.const (.slice none 0 0)) (.tmp 3) 23 23 rfl _ _ rfl rfl v' w' HR.out ?_)
  go_ret
  exact ⟨v', rfl, H2.out, HK.out⟩
/-- What holds while the codes are set apart. -/
structure TwK (w wr : World) (gb : Nat) (mem : Int) (dv' : Value) (gf fc' : Nat) (p : PG) (cvs : List Value) (k : Nat) (ncv : List Value) : Prop where
  box : wr.heap[gb]? = some (.cells #[.int .i64 mem, dv', .slice (some ⟨gf, 0, none⟩) p.fns.length fc'] 25 (0, 0))
  res : wr.heap[gb + 1]? = some (.cells #[.int .i64 0, .slice none 0 0, .slice none 0 0] 25 (0, 0))
  dat : wr.ownsRow w.heap.size 5 1 dv' p.data.length (p.data.map (Value.int .u8))
  row : wr.ownsRow w.heap.size 44 4 (.slice (some ⟨gf, 0, none⟩) p.fns.length fc') p.fns.length (fcells p.fns (ncv ++ cvs.drop k))
  len : cvs.length = p.fns.length
  nlen : ncv.length = k
  new : ∀ (i : Nat) (f : FN) (cv : Value), p.fns[i]? = some f → ncv[i]? = some cv → wr.ownsRow w.heap.size 46 2 cv f.code.length (icells f.code)
  apart : ∀ (i j : Nat) (c c' : Value), i < j → ncv[i]? = some c → ncv[j]? = some c' → ∀ q, c.ownBlock = some q → c'.ownBlock ≠ some q
  old : ∀ (i : Nat) (f : FN) (cv : Value), p.fns[i]? = some f → cvs[i]? = some cv → RowI wr cv f.code ∧ ∀ q, cv.ownBlock = some q → 0 < f.code.length → q < w.heap.size
  kept : Kept (fun _ => False) w wr
  off : w.heap.size = gb
theorem set_code : ∀ (fs : List FN) (ncv rest : List Value) (k : Nat) (f : FN) (cv cv' : Value), ncv.length = k → fs[k]? = some f → (ncv ++ cv :: rest).length = fs.length → (fcells fs (ncv ++ cv :: rest)).set (k * 4 + 3) cv' = fcells fs (ncv ++ cv' :: rest)
  | [], _, _, _, _, _, _, _, hf, _ => by simp at hf
  | g :: fs, [], rest, k, f, cv, cv', hn, hf, hl => by
    simp at hn
    subst hn
    show (g.cells cv ++ fcells fs rest).set 3 cv' = g.cells cv' ++ fcells fs rest
    simp [FN.cells]
  | g :: fs, c :: ncv, rest, k, f, cv, cv', hn, hf, hl => by
    obtain ⟨k', rfl⟩ : ∃ k', k = k' + 1 := ⟨ncv.length, by simpa using hn.symm⟩
    have ih := set_code fs ncv rest k' f cv cv' (by simpa using hn) (by simpa using hf) (by simpa using hl)
    show (g.cells c ++ fcells fs (ncv ++ cv :: rest)).set ((k' + 1) * 4 + 3) cv' = g.cells c ++ fcells fs (ncv ++ cv' :: rest)
    rw [List.set_append_right _ _ (by simp [FN.cells]; omega), ← ih]
    congr 2
    simp [FN.cells]
    omega
theorem TwK.store {w wr w5 w6 : World} {gb : Nat} {mem : Int} {dv' : Value} {gf fc' : Nat} {p : PG} {cvs : List Value} {k : Nat} {ncv : List Value} (h : TwK w wr gb mem dv' gf fc' p cvs k ncv) (hk5 : Kept (fun _ => False) wr w5) (hk6 : Kept (fun _ => False) w5 w6) (hlt : k < p.fns.length) : (∃ u, w6.cell? ⟨gf, k * 4 + 3, none⟩ = some u) ∧ w6.frozen? ⟨gf, k * 4 + 3, none⟩ = false := by
  have ho := (hk5.trans hk6).ownsRow h.row (fun _ _ f => f)
  refine ⟨?_, World.ownsRow.frozenAt ho _⟩
  rw [ho.cellAt _ (by omega)]
  exact ⟨_, List.getElem?_eq_getElem (by rw [ho.1]; omega)⟩
theorem TwK.next {w wr w5 w6 : World} {gb : Nat} {mem : Int} {dv' : Value} {gf fc' : Nat} {p : PG} {cvs : List Value} {k : Nat} {ncv : List Value} {f : FN} {cv nv : Value} (h : TwK w wr gb mem dv' gf fc' p cvs k ncv) (hf : p.fns[k]? = some f) (hc : cvs[k]? = some cv) (hk5 : Kept (fun _ => False) wr w5) (hk6 : Kept (fun _ => False) w5 w6) (hn : w6.ownsRow w5.heap.size 46 2 nv f.code.length (icells f.code)) (hlt : k < p.fns.length) :
    TwK w (w6.setCell ⟨gf, k * 4 + 3, none⟩ nv) gb mem dv' gf fc' p cvs (k + 1) (ncv ++ [nv]) := by
  have hk := hk5.trans hk6
  have hks := kept_set w6 gf (k * 4 + 3) nv
  have hrow := hk.ownsRow h.row (fun _ _ f => f)
  have hgf : w.heap.size ≤ gf := (h.row.lt gf rfl).1
  have hs5 : w.heap.size ≤ w5.heap.size := Nat.le_trans h.kept.size hk5.size
  have hbox := box_kept hk h.box (fun f => f)
  have hres := box_kept hk h.res (fun f => f)
  have hnb : gf ≠ gb := fun e => own_box hrow hbox (by decide) (by rw [e]; rfl)
  have hnr : gf ≠ gb + 1 := fun e => own_box hrow hres (by decide) (by rw [e]; rfl)
  have hdr : cvs.drop k = cv :: cvs.drop (k + 1) := by
    have hl : k < cvs.length := (List.getElem?_eq_some_iff.1 hc).1
    rw [List.drop_eq_getElem_cons hl]
    congr 1
    exact (List.getElem?_eq_some_iff.1 hc).2
  have hst := (World.ownsRow.stored hrow (k * 4 + 3) nv).1
  rw [hdr, set_code p.fns ncv (cvs.drop (k + 1)) k f cv nv h.nlen hf (by rw [← hdr, List.length_append, h.nlen, List.length_drop, h.len]; omega)] at hst
  have hun : ∀ {c : Value} {g : FN} {b : Nat}, w6.ownsRow b 46 2 c g.code.length (icells g.code) → (w6.setCell ⟨gf, k * 4 + 3, none⟩ nv).ownsRow b 46 2 c g.code.length (icells g.code) := fun hc => hks.ownsRow hc (fun q hq e => by subst e; exact own_unlike hc hrow (by decide) _ hq rfl)
  refine ⟨box_kept hks hbox (Ne.symm hnb), box_kept hks hres (Ne.symm hnr), ?_, by rw [List.append_assoc]; exact hst, h.len, by rw [List.length_append, h.nlen]; rfl, fun i F c hF hc' => ?_, fun i j c c' hij hc1 hc2 q hq hq' => ?_, fun i F c hF hc' => ?_, h.kept.step (hk.trans (Kept.refl _ _)) (fun _ _ f => f) |>.step hks (fun i hi e => by omega), h.off⟩
  · have hd := hk.ownsRow h.dat (fun _ _ f => f)
    exact hks.ownsRow hd (fun q hq e => by subst e; exact own_unlike hd hrow (by decide) _ hq rfl)
  · by_cases hik : i < ncv.length
    · rw [List.getElem?_append_left hik] at hc'
      exact hun (hk.ownsRow (h.new i F c hF hc') (fun _ _ f => f))
    · have hl2 : i < (ncv ++ [nv]).length := (List.getElem?_eq_some_iff.1 hc').1
      rw [List.length_append] at hl2
      have e : i = ncv.length := by simp at hl2; omega
      subst e
      rw [List.getElem?_append_right (Nat.le_refl _), Nat.sub_self] at hc'
      cases hc'
      rw [h.nlen, hf] at hF
      cases hF
      exact own_mono (hun hn) hs5
  · have hjl : j < (ncv ++ [nv]).length := (List.getElem?_eq_some_iff.1 hc2).1
    rw [List.length_append] at hjl
    have hil : i < ncv.length := by simp at hjl; omega
    rw [List.getElem?_append_left hil] at hc1
    by_cases hl : j < ncv.length
    · rw [List.getElem?_append_left hl] at hc2
      exact h.apart i j c c' hij hc1 hc2 q hq hq'
    · have e : j = ncv.length := by simp at hjl; omega
      subst e
      rw [List.getElem?_append_right (Nat.le_refl _), Nat.sub_self] at hc2
      cases hc2
      have hFi : i < p.fns.length := by have := h.nlen; omega
      have h9 := ((hk5.ownsRow (h.new i _ c (List.getElem?_eq_getElem hFi) hc1) (fun _ _ f => f)).lt q hq).2
      have h8 := (hn.lt q hq').1
      omega
  · obtain ⟨h1, h2⟩ := h.old i F c hF hc'
    refine ⟨(h1.kept hk (fun _ _ f => f)).keptB hks (fun q hq h0 e => ?_), h2⟩
    have := h2 q hq h0
    omega
theorem TwK.done {w wr w' : World} {gb : Nat} {mem : Int} {dv' : Value} {gf fc' : Nat} {p : PG} {cvs : List Value} {ncv : List Value} (h : TwK w wr gb mem dv' gf fc' p cvs p.fns.length ncv) (hk : Kept (fun q => q = gb + 1) wr w') : OwnP w.heap.size w' dv' (.slice (some ⟨gf, 0, none⟩) p.fns.length fc') ncv p ∧ Kept (fun _ => False) w w' := by
  have ho := h.off
  have hrow := h.row
  rw [← h.len, List.drop_length, List.append_nil, h.len] at hrow
  refine ⟨⟨hk.ownsRow h.dat (fun q hq e => by subst e; exact own_box h.dat h.res (by decide) hq), OwnF.box (t := 25) ⟨h.nlen, hrow, h.new, h.apart⟩ h.res (by decide) (by decide) hk⟩, h.kept.step hk (fun i hi e => by omega)⟩

/-- What Twin leaves. -/
def TwinR (p : PG) (w : World) (e : Ending) (w' : World) : Prop := (∃ dv fv cvs, e = .returned (.agg #[.int .i64 p.mem, dv, fv]) ∧ OwnP w.heap.size w' dv fv cvs p) ∧ Kept (fun _ => False) w w'
set_option maxHeartbeats 16000000 in
theorem twin_p (v : Value) (p : PG) (w : World) (B : Nat) (h : PgIs w B v p) (hB : B ≤ w.heap.size) (ho : p.Ok) : Calls Try.prog 7 #[v] w (TwinR p w) := by
  obtain ⟨dv, fv, rfl, hd, hdl, hf⟩ := h
  obtain ⟨dao, dc, rfl⟩ := hd.shape
  obtain ⟨fao, fc, rfl⟩ := hf.shape
  obtain ⟨cvs, g1, g2, g3, g4, g5⟩ := hf.cvs
  have hbd := ho.data.2
  have hlf := ho.len
  have hk1 : Kept (fun _ => False) w ((w.alloc (.cells #[.int .i64 p.mem, .slice dao p.data.length dc, .slice fao p.fns.length fc] 25)).alloc (.cells #[.int .i64 0, .slice none 0 0, .slice none 0 0] 25)) := ((Kept.refl _ _).alloc _).alloc _
  have HA1 := hid_of (apart_b _ p.data _ (hd.kept hk1 (fun _ _ f => f)) (by omega))
  have HG2 : Hid (∀ W, Kept (fun _ => False) w W → Calls Try.prog 25 #[.slice fao p.fns.length fc] W fun e w' => ∃ v', e = .returned v' ∧ w'.ownsRow W.heap.size 44 4 v' p.fns.length (fcells p.fns cvs) ∧ Kept (fun _ => False) W w') := fun W hW => apart_f fao fc p.fns cvs W g1 (fun q hq j u hj => hW.cell (g2 q hq j u hj) (fun f => f)) g4 g5 (by omega)
  have HG3 := hid_of g3
  have HG1 := hid_of g1
  have HO := hid_of ho
  obtain ⟨nd, hnd⟩ : ∃ n, n = p.data.length := ⟨_, rfl⟩
  obtain ⟨nf, hnf⟩ : ∃ n, n = p.fns.length := ⟨_, rfl⟩
  obtain ⟨mem, hmem⟩ : ∃ m, m = p.mem := ⟨_, rfl⟩
  rw [← hmem, ← hnd, ← hnf] at hk1 HA1 ⊢
  rw [← hnf] at HG2 hlf
  have HNF := hid_of hnf
  have HND := hid_of hnd
  have HMEM := hid_of hmem
  have HB0 := hid_of hB
  clear g1 g2 g3 g4 g5 hd hdl hf ho hnf hnd hmem hbd hB
  have hb1 : ((w.alloc (.cells #[.int .i64 mem, .slice dao nd dc, .slice fao nf fc] 25)).alloc (.cells #[.int .i64 0, .slice none 0 0, .slice none 0 0] 25)).heap[w.heap.size]? = some (.cells #[.int .i64 mem, .slice dao nd dc, .slice fao nf fc] 25 (0, 0)) := by
    rw [heap_alloc_old _ _ (by simp)]
    exact heap_alloc_new w _
  have hz1 := heap_alloc_new (w.alloc (.cells #[.int .i64 mem, .slice dao nd dc, .slice fao nf fc] 25)) (.cells #[.int .i64 0, .slice none 0 0, .slice none 0 0] 25)
  rw [show (w.alloc (.cells #[.int .i64 mem, .slice dao nd dc, .slice fao nf fc] 25)).heap.size = w.heap.size + 1 by simp] at hz1
  go_enter Try.func7, Try.ntmps7
  go_upto_region 1 with fail
  generalize (w.alloc (.cells #[.int .i64 mem, .slice dao nd dc, .slice fao nf fc] 25)).alloc (.cells #[.int .i64 0, .slice none 0 0, .slice none 0 0] 25) = w1 at *
  obtain ⟨gb, hgb⟩ : ∃ g, g = w.heap.size := ⟨_, rfl⟩
  rw [← hgb] at hb1 hz1 ⊢
  have HGB := hid_of hgb
  have c1 := cell_block _ gb 1 _ _ _ hb1
  have HK1 := hid_of hk1
  have HB1 := hid_of hb1
  have HZ1 := hid_of hz1
  clear hk1 hb1 hz1 hgb
  go_wp2_with fail
  refine HA1.out.mono ?_
  rintro e w2 ⟨dv', rfl, hd2, hk2⟩
  obtain ⟨da', dc', hds⟩ := ownsRow_shape hd2
  subst hds
  have hb2 := box_kept hk2 HB1.out (fun f => f)
  have hz2 := box_kept hk2 HZ1.out (fun f => f)
  have d1 := cell_block _ gb 1 _ _ _ hb2
  have df := frozen_block _ gb 1 _ _ hb2
  have hks := kept_set w2 gb 1 (.slice da' nd dc')
  have hb3 : (w2.setCell ⟨gb, 1, none⟩ (.slice da' nd dc')).heap[gb]? = some (.cells #[.int .i64 mem, .slice da' nd dc', .slice fao nf fc] 25 (0, 0)) := set_block _ _ 1 _ _ _ hb2 _
  have hz3 := box_kept hks hz2 (by omega)
  have hd3 := hks.ownsRow hd2 (fun q hq e => by subst e; exact own_box hd2 hb2 (by decide) hq)
  have hk3 : Kept (fun _ => False) w (w2.setCell ⟨gb, 1, none⟩ (.slice da' nd dc')) := (HK1.out.trans hk2).step hks (fun i hi e => by have := HGB.out; omega)
  have HA2 := hid_of (HG2.out _ hk3)
  have HB3 := hid_of hb3
  have HZ3 := hid_of hz3
  have HD3 := hid_of (own_mono hd3 HK1.out.size)
  have HK3 := hid_of hk3
  clear hb2 hz2 hks hb3 hz3 hd3 hk3 hd2 hk2 HA1 HG2 c1
  go_upto_region 2 with fail
  clear d1 df
  generalize w2.setCell ⟨gb, 1, none⟩ (.slice da' nd dc') = w3 at *
  have c2 := cell_block _ gb 2 _ _ _ HB3.out
  go_wp2_with fail
  refine HA2.out.mono ?_
  rintro e w4 ⟨fv', rfl, hf4, hk4⟩
  have hb4 := box_kept hk4 HB3.out (fun f => f)
  have hz4 := box_kept hk4 HZ3.out (fun f => f)
  have d2 := cell_block _ gb 2 _ _ _ hb4
  have df := frozen_block _ gb 2 _ _ hb4
  obtain ⟨fa', fc', hfs⟩ := ownsRow_shape hf4
  subst hfs
  have hks := kept_set w4 gb 2 (.slice fa' nf fc')
  have hb5 : (w4.setCell ⟨gb, 2, none⟩ (.slice fa' nf fc')).heap[gb]? = some (.cells #[.int .i64 mem, .slice da' nd dc', .slice fa' nf fc'] 25 (0, 0)) := set_block _ _ 2 _ _ _ hb4 _
  have hz5 := box_kept hks hz4 (by omega)
  have hd4 := hk4.ownsRow HD3.out (fun _ _ f => f)
  have hd5 := hks.ownsRow hd4 (fun q hq e => by subst e; exact own_box hd4 hb4 (by decide) hq)
  have hf5 := hks.ownsRow hf4 (fun q hq e => by subst e; exact own_box hf4 hb4 (by decide) hq)
  have hk5 : Kept (fun _ => False) w (w4.setCell ⟨gb, 2, none⟩ (.slice fa' nf fc')) := (HK3.out.trans hk4).step hks (fun i hi e => by have := HGB.out; omega)
  have HB5 := hid_of hb5
  have HZ5 := hid_of hz5
  have HD5 := hid_of hd5
  have HF5 := hid_of (own_mono hf5 HK3.out.size)
  have HK5 := hid_of hk5
  clear hb4 hz4 hks hb5 hz5 hd4 hd5 hf4 hf5 hk5 hk4 HA2 c2 HD3 HB3 HZ3
  go_upto_region 3 with fail
  clear d2 df
  generalize w4.setCell ⟨gb, 2, none⟩ (.slice fa' nf fc') = w5 at *
  have c2 := cell_block _ gb 2 _ _ _ HB5.out
  by_cases hnf0 : nf = 0
  · subst hnf0
    have y0 := cell_block _ gb 0 _ _ _ HB5.out
    have y1 := cell_block _ gb 1 _ _ _ HB5.out
    have hz5 := HZ5.out
    have hkr := kept_row w5 (gb + 1) #[.int .i64 mem, .slice da' nd dc', .slice fa' 0 fc']
    have HXR := hid_of (setRow_heap w5 (gb + 1) _ #[.int .i64 mem, .slice da' nd dc', .slice fa' 0 fc'] 25 (0, 0) hz5)
    have HFIN : Hid (TwinR p w (.returned (.agg #[.int .i64 mem, .slice da' nd dc', .slice fa' 0 fc'])) (w5.setRow (gb + 1) #[.int .i64 mem, .slice da' nd dc', .slice fa' 0 fc'])) := by
      have e0 : p.fns = [] := List.length_eq_zero_iff.1 HNF.out.symm
      have e1 : cvs = [] := List.length_eq_zero_iff.1 (by rw [HG1.out]; exact HNF.out.symm)
      have h6 : w5.ownsRow w.heap.size 5 1 (.slice da' nd dc') p.data.length (p.data.map (Value.int .u8)) := by rw [← HND.out]; exact HD5.out
      have hF : OwnF w.heap.size w5 (.slice fa' 0 fc') p.fns cvs := ⟨HG1.out, by rw [← HNF.out]; exact HF5.out, fun i f cv hf => by rw [e0] at hf; simp at hf, fun i j c c' _ hc => by rw [e1] at hc; simp at hc⟩
      refine ⟨⟨_, _, cvs, by rw [HMEM.out], hkr.ownsRow h6 (fun q hq e => by subst e; exact own_box h6 hz5 (by decide) hq), hF.box hz5 (by decide) (by decide) hkr⟩, HK5.out.step hkr (fun i hi e => by have := HGB.out; omega)⟩
    clear hkr
    go_wp2_with fail
    go_loop [16] (fun i => i = .int .i64 0) (fun _ => 0)
    case atStart => rfl
    case round =>
      obtain rfl := hrel
      go_wp2_with (refine wpList_store_row rfl 25 _ _ rfl (gb + 1) #[.int .i64 mem, .slice da' nd dc', .slice fa' 0 fc'] rfl rfl 25 _ hz5 size25 rfl (three_one _ _ _ rfl rfl rfl) ?_)
      refine bodyPost_ret (v := .agg #[.int .i64 mem, .slice da' nd dc', .slice fa' 0 fc']) ?_ rfl HFIN.out
      exact results_cell_row (by rfl) _ _ (gb + 1) 25 _ (0, 0) _ (by rfl) HXR.out Try.underlying25 rfl size25
  · obtain ⟨gf, hgf⟩ : ∃ gf, fa' = some ⟨gf, 0, none⟩ := by
      have h9 := HF5.out
      rcases World.ownsRow.mk' h9 with ⟨_, e⟩ | ⟨g, cap, e⟩
      · omega
      · cases e; exact ⟨g, rfl⟩
    subst hgf
    have HT0 : Hid (TwK w w5 gb mem (.slice da' nd dc') gf fc' p cvs 0 []) := by
      have h9 : w5.ownsRow w.heap.size 44 4 (.slice (some ⟨gf, 0, none⟩) p.fns.length fc') p.fns.length (fcells p.fns cvs) := by rw [← HNF.out]; exact HF5.out
      have h8 : w5.heap[gb]? = some (.cells #[.int .i64 mem, .slice da' nd dc', .slice (some ⟨gf, 0, none⟩) p.fns.length fc'] 25 (0, 0)) := by rw [← HNF.out]; exact HB5.out
      have h7 := HG1.out
      have h6 : w5.ownsRow w.heap.size 5 1 (.slice da' nd dc') p.data.length (p.data.map (Value.int .u8)) := by rw [← HND.out]; exact HD5.out
      exact ⟨h8, HZ5.out, h6, by rw [List.drop_zero, List.nil_append]; exact h9, h7, rfl, fun i f cv _ hc => by simp at hc, fun i j c c' _ hc => by simp at hc, fun i f cv hf hc => ⟨(HG3.out i f cv hf hc).1.kept HK5.out (fun _ _ f => f), fun q hq h0 => Nat.lt_of_lt_of_le ((HG3.out i f cv hf hc).2 q hq h0) HB0.out⟩, HK5.out, HGB.out.symm⟩
    clear HB5 HZ5 HD5 HF5 HK5
    go_wp2_with fail
    clear c2
    go_loopw [16] (fun i wr => ∃ (k : Nat) (ncv : List Value), k ≤ nf ∧ i = .int .i64 (k : Int) ∧ Hid (TwK w wr gb mem (.slice da' nd dc') gf fc' p cvs k ncv)) (fun i _ => nf - (intOf i).toNat)
    case atStart => exact ⟨0, [], by omega, rfl, HT0⟩
    case round =>
      obtain ⟨k, ncv, hk, rfl, HTK⟩ := hrel
      clear HT0
      by_cases hlt : k < nf
      · have hltI : (k : Int) < (nf : Int) := by omega
        have hlk : k < p.fns.length := by rw [← HNF.out]; exact hlt
        obtain ⟨f, hfi⟩ : ∃ f, p.fns[k]? = some f := ⟨_, List.getElem?_eq_getElem hlk⟩
        obtain ⟨cv, hci⟩ : ∃ cv, cvs[k]? = some cv := ⟨_, List.getElem?_eq_getElem (by rw [HG1.out]; exact hlk)⟩
        obtain ⟨hri, hrb⟩ := HTK.out.old k f cv hfi hci
        obtain ⟨cao, cc, hcs⟩ := hri.shape
        obtain ⟨nc, hnc⟩ : ∃ n, n = f.code.length := ⟨_, rfl⟩
        rw [← hnc] at hcs
        subst hcs
        have hcr : ∀ j u, (f.cells (.slice cao nc cc))[j]? = some u → wr.cell? ⟨gf, k * 4 + j, none⟩ = some u := fun j u hj => by
          have hj4 : j < 4 := by
            have := (List.getElem?_eq_some_iff.1 hj).1
            simpa [FN.cells] using this
          rw [HTK.out.row.cellAt _ (by omega), fcells_at p.fns _ k f (.slice cao nc cc) hfi (by rw [List.getElem?_append_right (by rw [HTK.out.nlen]; exact Nat.le_refl _), HTK.out.nlen, Nat.sub_self, List.getElem?_drop]; exact hci) j hj4]
          exact hj
        obtain ⟨fa, hfa1⟩ : ∃ z, z = f.a := ⟨_, rfl⟩
        obtain ⟨fl, hfl1⟩ : ∃ z, z = f.l := ⟨_, rfl⟩
        obtain ⟨fr, hfr1⟩ : ∃ z, z = f.r := ⟨_, rfl⟩
        have x0 : wr.cell? ⟨gf, k * 4, none⟩ = some (.int .i64 fa) := by rw [hfa1]; exact hcr 0 _ rfl
        have x1 : wr.cell? ⟨gf, k * 4 + 1, none⟩ = some (.int .i64 fl) := by rw [hfl1]; exact hcr 1 _ rfl
        have x2 : wr.cell? ⟨gf, k * 4 + 2, none⟩ = some (.int .i64 fr) := by rw [hfr1]; exact hcr 2 _ rfl
        have x3 : wr.cell? ⟨gf, k * 4 + 3, none⟩ = some (.slice cao nc cc) := hcr 3 _ rfl
        have hkX : Kept (fun _ => False) wr (wr.alloc (.cells #[.int .i64 fa, .int .i64 fl, .int .i64 fr, .slice cao nc cc] 44)) := (Kept.refl _ _).alloc _
        have HFX := hid_of (heap_alloc_new wr (.cells #[.int .i64 fa, .int .i64 fl, .int .i64 fr, .slice cao nc cc] 44))
        have HRX := hid_of (hri.kept hkX (fun _ _ f => f))
        have hlc := (HO.out.fns f (List.mem_of_getElem? hfi)).len
        have HLC : Hid (f.code.length * 16 ≤ 140737488355328) := by unfold Hid; omega
        have HFI := hid_of hfi
        have HCI := hid_of hci
        have HKX0 := hid_of hkX
        have HKN := hid_of hlk
        have hbw := HTK.out.box
        rw [← HNF.out] at hbw
        have HBX := hid_of (box_kept hkX hbw (fun f => f))
        clear hri hrb hcr hfa1 hfl1 hfr1 hnc hkX hfi hci hlc hbw
        go_upto_region 6 with fail
        clear x0 x1 x2 x3
        obtain ⟨w5x, hw5x⟩ : ∃ W, W = (wr.alloc (.cells #[.int .i64 fa, .int .i64 fl, .int .i64 fr, .slice cao nc cc] 44)) := ⟨_, rfl⟩
        obtain ⟨gx, hgx⟩ : ∃ g, g = wr.heap.size := ⟨_, rfl⟩
        have HGX : Hid (gx ≠ gf ∧ gx ≠ gb) := by
          have h1 := (HTK.out.row.lt gf rfl).2
          have h2 := (Array.getElem?_eq_some_iff.1 HTK.out.box).1
          exact ⟨by omega, by omega⟩
        have HGF : Hid (gf ≠ gb) := fun e => own_box HTK.out.row HTK.out.box (by decide) (by rw [e]; rfl)
        rw [← hgx] at HFX ⊢
        rw [← hw5x] at HFX HRX HKX0 HBX ⊢
        clear hw5x hgx
        have HKX : Hid (Kept (fun _ => False) wr w5x.drew) := HKX0.out.drew
        have HFX5 : Hid (w5x.drew.heap[gx]? = some (.cells #[.int .i64 fa, .int .i64 fl, .int .i64 fr, .slice cao nc cc] 44 (0, 0))) := HFX.out
        have HBX5 : Hid (w5x.drew.heap[gb]? = some (.cells #[.int .i64 mem, .slice da' nd dc', .slice (some ⟨gf, 0, none⟩) nf fc'] 25 (0, 0))) := HBX.out
        have HAP := hid_of (apart_i (.slice cao nc cc) f.code w5x.drew (HRX.out.kept ((Kept.refl (fun _ => False) _).drew) (fun _ _ f => f)) HLC.out)
        have HBS : Hid (∀ W : World, W.heap[gb]? = some (.cells #[.int .i64 mem, .slice da' nd dc', .slice (some ⟨gf, 0, none⟩) nf fc'] 25 (0, 0)) → ∀ u, (W.setCell ⟨gf, k * 4 + 3, none⟩ u).heap[gb]? = some (.cells #[.int .i64 mem, .slice da' nd dc', .slice (some ⟨gf, 0, none⟩) nf fc'] 25 (0, 0))) := fun W hW u => box_kept (kept_set W gf (k * 4 + 3) u) hW (Ne.symm HGF.out)
        have HFS : Hid (∀ W : World, W.heap[gx]? = some (.cells #[.int .i64 fa, .int .i64 fl, .int .i64 fr, .slice cao nc cc] 44 (0, 0)) → ∀ u, (W.setCell ⟨gf, k * 4 + 3, none⟩ u).heap[gx]? = some (.cells #[.int .i64 fa, .int .i64 fl, .int .i64 fr, .slice cao nc cc] 44 (0, 0))) := fun W hW u => box_kept (kept_set W gf (k * 4 + 3) u) hW HGX.out.1
        clear HFX HRX HKX0 HBX
        refine wp_region_held_drew (S := fun w' => (w'.heap[gb]? = some (.cells #[.int .i64 mem, Value.slice da' nd dc', .slice (some ⟨gf, 0, none⟩) nf fc'] 25 (0, 0)) ∧ w'.heap[gx]? = some (.cells #[.int .i64 fa, .int .i64 fl, .int .i64 fr, .slice cao nc cc] 44 (0, 0)))) (by kernel_rfl) ⟨HBX5.out, HFX5.out⟩ (fun hHeld => ?_)
        refine wpAnyH_take (i := 0) (v := ?_) rfl (by kernel_rfl) (by kernel_rfl) (by kernel_rfl) (fun _ _ _ h => h) (Or.inl ⟨by rfl, ?_⟩) (by assumption) ?_
        rotate_left 1
        · intro w hSw
          go_simp
          try with_reducible rfl
        try simp only [Act.put, List.getElem_toArray, List.getElem_cons_zero, List.getElem_cons_succ, List.setIfInBounds_toArray, List.set_cons_zero, List.set_cons_succ]
        refine wpAnyH_take (i := 1) (v := ?_) rfl (by kernel_rfl) (by kernel_rfl) (by kernel_rfl) (fun _ _ _ h => h) (Or.inl ⟨by rfl, ?_⟩) (by assumption) ?_
        rotate_left 1
        · intro w hSw
          have q2 := cell_block _ gb 2 _ _ _ hSw.1
          go_simp
          try with_reducible rfl
        try simp only [Act.put, List.getElem_toArray, List.getElem_cons_zero, List.getElem_cons_succ, List.setIfInBounds_toArray, List.set_cons_zero, List.set_cons_succ]
        refine wpAnyH_take (i := 2) (v := ?_) rfl (by kernel_rfl) (by kernel_rfl) (by kernel_rfl) (fun _ _ _ h => h) (Or.inl ⟨by rfl, ?_⟩) (by assumption) ?_
        rotate_left 1
        · intro w hSw
          go_simp
          try with_reducible rfl
        try simp only [Act.put, List.getElem_toArray, List.getElem_cons_zero, List.getElem_cons_succ, List.setIfInBounds_toArray, List.set_cons_zero, List.set_cons_succ]
        refine wpAnyH_take (i := 3) (v := ?_) rfl (by kernel_rfl) (by kernel_rfl) (by kernel_rfl) (fun _ _ _ h => h) (Or.inl ⟨by rfl, ?_⟩) (by assumption) ?_
        rotate_left 1
        · intro w hSw
          go_simp
          try with_reducible rfl
        try simp only [Act.put, List.getElem_toArray, List.getElem_cons_zero, List.getElem_cons_succ, List.setIfInBounds_toArray, List.set_cons_zero, List.set_cons_succ]
        refine wpAnyH_take (i := 4) (v := ?_) rfl (by kernel_rfl) (by kernel_rfl) (by kernel_rfl) (fun _ _ _ h => h) (Or.inl ⟨by rfl, ?_⟩) (by assumption) ?_
        rotate_left 1
        · intro w hSw
          have q3 := cell_block _ gx 3 _ _ _ hSw.2
          go_simp
          try with_reducible rfl
        try simp only [Act.put, List.getElem_toArray, List.getElem_cons_zero, List.getElem_cons_succ, List.setIfInBounds_toArray, List.set_cons_zero, List.set_cons_succ]
        refine wpAnyH_ready (rs := [5]) (by kernel_rfl) (by simp) ?_
        refine AllReadyH.cons rfl (fun K hK => ?_) AllReadyH.nil
        go_simp
        refine HAP.out.mono ?_
        rintro e w6 ⟨ncv, rfl, hn6, hk6⟩
        obtain ⟨no, ncc, hns⟩ := ownsRow_shape hn6
        obtain ⟨nc', hnc'⟩ : ∃ n, n = f.code.length := ⟨_, rfl⟩
        rw [← hnc'] at hns
        subst hns
        have hP7 := HTK.out.next HFI.out HCI.out HKX.out hk6 hn6 hlk
        have HP7 := hid_of hP7
        have ho6 := HTK.out.store HKX.out hk6 HKN.out
        obtain ⟨u6, l6⟩ := ho6.1
        have lf6 := ho6.2
        refine hK.out _ _ ⟨box_kept hk6 HBX5.out (fun f => f), box_kept hk6 HFX5.out (fun f => f)⟩ (fun hHeld => ?_)
        clear hK K hn6 hP7 ho6 hnc'
        try simp only [Act.put, List.getElem_toArray, List.getElem_cons_zero, List.getElem_cons_succ, List.setIfInBounds_toArray, List.set_cons_zero, List.set_cons_succ]
        refine wpAnyH_take (i := 6) (v := ?_) rfl (by kernel_rfl) (by kernel_rfl) (by kernel_rfl) (fun _ _ _ h => h) (Or.inl ⟨by rfl, ?_⟩) (by assumption) ?_
        rotate_left 1
        · intro w hSw
          go_simp
          try with_reducible rfl
        try simp only [Act.put, List.getElem_toArray, List.getElem_cons_zero, List.getElem_cons_succ, List.setIfInBounds_toArray, List.set_cons_zero, List.set_cons_succ]
        refine wpAnyH_take (i := 7) (v := ?_) rfl (by kernel_rfl) (by kernel_rfl) (by kernel_rfl) (fun _ _ _ h => h) (Or.inl ⟨by rfl, ?_⟩) (by assumption) ?_
        rotate_left 1
        · intro w hSw
          go_simp
          try with_reducible rfl
        try simp only [Act.put, List.getElem_toArray, List.getElem_cons_zero, List.getElem_cons_succ, List.setIfInBounds_toArray, List.set_cons_zero, List.set_cons_succ]
        refine wpAnyH_ready (rs := [8]) (by kernel_rfl) (by simp) ?_
        refine AllReadyH.cons rfl (fun K hK => ?_) AllReadyH.nil
        go_simp
        refine hK.out _ _ ⟨HBS.out _ hHeld.1 _, HFS.out _ hHeld.2 _⟩ (fun hHeld => ?_)
        clear hK K l6 lf6
        try simp only [Act.put, List.getElem_toArray, List.getElem_cons_zero, List.getElem_cons_succ, List.setIfInBounds_toArray, List.set_cons_zero, List.set_cons_succ]
        refine wpAnyH_done (by kernel_rfl) ?_ _
        go_wp2
        go_roundw
        case rel => exact ⟨k + 1, _, by omega, by go_num, HP7⟩
        case measure => simp [intOf]; omega
      · have hnl : ¬ ((k : Int) < (nf : Int)) := by omega
        have hkn : k = nf := by omega
        have HTN : Hid (TwK w wr gb mem (.slice da' nd dc') gf fc' p cvs p.fns.length ncv) := by unfold Hid; have h9 := HTK.out; rw [hkn, HNF.out] at h9; exact h9
        have hbw := HTN.out.box
        rw [← HNF.out] at hbw
        have y0 := cell_block _ gb 0 _ _ _ hbw
        have y1 := cell_block _ gb 1 _ _ _ hbw
        have y2 := cell_block _ gb 2 _ _ _ hbw
        have hz5 := HTN.out.res
        have hkr := kept_row wr (gb + 1) #[.int .i64 mem, .slice da' nd dc', .slice (some ⟨gf, 0, none⟩) nf fc']
        have HXR := hid_of (setRow_heap wr (gb + 1) _ #[.int .i64 mem, .slice da' nd dc', .slice (some ⟨gf, 0, none⟩) nf fc'] 25 (0, 0) hz5)
        have HFIN : Hid (TwinR p w (.returned (.agg #[.int .i64 mem, .slice da' nd dc', .slice (some ⟨gf, 0, none⟩) nf fc'])) (wr.setRow (gb + 1) #[.int .i64 mem, .slice da' nd dc', .slice (some ⟨gf, 0, none⟩) nf fc'])) := by
          have h9 := HTN.out.done hkr
          rw [← HNF.out] at h9
          exact ⟨⟨_, _, ncv, by rw [HMEM.out], h9.1⟩, h9.2⟩
        clear hkr hbw HTK HTN hkn
        go_wp2_with (refine wpList_store_row rfl 25 _ _ rfl (gb + 1) #[.int .i64 mem, .slice da' nd dc', .slice (some ⟨gf, 0, none⟩) nf fc'] rfl rfl 25 _ hz5 size25 rfl (three_one _ _ _ rfl rfl rfl) ?_)
        refine bodyPost_ret (v := .agg #[.int .i64 mem, .slice da' nd dc', .slice (some ⟨gf, 0, none⟩) nf fc']) ?_ rfl HFIN.out
        exact results_cell_row (by rfl) _ _ (gb + 1) 25 _ (0, 0) _ (by rfl) HXR.out Try.underlying25 rfl size25
end Go.Proofs.Ytnjhnlohjhdcpab

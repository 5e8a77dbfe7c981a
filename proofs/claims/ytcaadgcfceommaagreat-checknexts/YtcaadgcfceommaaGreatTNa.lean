/-
  TNa: Na.
-/
import Derived.Test.YtcaadgcfceommaaGreatTQs
import Derived.Test.YtcaadgcfceommaaGreatTGrw
namespace Go.Proofs.YtcaadgcfceommaaGreat
open Go.ChangeShapes Go.WideShapes Go.ChangeAt Go.RowKit Go.Deep
set_option linter.unusedVariables false
set_option linter.unusedSimpArgs false
set_option maxRecDepth 100000

theorem icells_one (ys : List IN) : ∀ u ∈ icells ys, u.oneCell' = true := by
  intro u hu
  obtain ⟨y, _, hy⟩ := List.mem_flatMap.1 hu
  simp [IN.cells] at hy
  rcases hy with rfl | rfl <;> rfl
theorem rowI_cells {w : World} {a : Addr} {c : Nat} {ys : List IN} (h : RowI w (.slice (some a) ys.length c) ys) : ∀ j v, (icells ys)[j]? = some v → w.cell? (a.add j) = some v := by
  intro j v hj
  have hl := (List.getElem?_eq_some_iff.1 hj).1
  rw [icells_length ys] at hl
  rcases h with ⟨e, _⟩ | ⟨g, o, c', e, hc⟩
  · rw [e] at hl; simp at hl
  · cases e
    have hq : j / 2 < ys.length := by omega
    obtain ⟨y, hyi⟩ : ∃ y, ys[j / 2]? = some y := ⟨_, List.getElem?_eq_getElem hq⟩
    have hat := icells_at ys (j / 2) y hyi (j % 2) (by omega)
    rw [show j / 2 * 2 + j % 2 = j by omega, hj] at hat
    have := hc (j / 2) y hyi (j % 2) v hat.symm
    rw [Addr.add_lit, show o + j = o + j / 2 * 2 + j % 2 by omega]
    exact this
theorem own_unlike {w : World} {b b' e e' s s' n n' : Nat} {v v' : Value} {xs xs' : List Value} (h : w.ownsRow b e s v n xs) (h' : w.ownsRow b' e' s' v' n' xs') (hne : e ≠ e') : ∀ q, v.ownBlock = some q → v'.ownBlock ≠ some q := by
  intro q hq hq'
  rcases h.2 with ⟨rfl, _⟩ | ⟨g, cap, cur, rfl, _, hg, _⟩
  · cases hq
  · rcases h'.2 with ⟨rfl, _⟩ | ⟨g', cap', cur', rfl, _, hg', _⟩
    · cases hq'
    · have e1 : g = q := Option.some.inj hq
      have e2 : g' = q := Option.some.inj hq'
      subst e1
      subst e2
      rw [hg] at hg'
      cases hg'
      exact hne rfl
theorem own_box {w : World} {b e s n t B : Nat} {v : Value} {xs : List Value} {c : Array Value} (h : w.ownsRow b e s v n xs) (hB : w.heap[B]? = some (.cells c t (0, 0))) (hne : t ≠ e) : v.ownBlock ≠ some B := by
  intro hq
  rcases h.2 with ⟨rfl, _⟩ | ⟨g, cap, cur, rfl, _, hg, _⟩
  · cases hq
  · have e1 : g = B := Option.some.inj hq
    subst e1
    rw [hg] at hB
    cases hB
    exact hne rfl
/-- The cells of functions whose codes lie in these slices. -/
def fcells : List FN → List Value → List Value
  | f :: fs, cv :: cvs => f.cells cv ++ fcells fs cvs
  | _, _ => []
theorem fcells_snoc : ∀ (fs : List FN) (cvs : List Value) (f : FN) (cv : Value), cvs.length = fs.length → fcells (fs ++ [f]) (cvs ++ [cv]) = fcells fs cvs ++ f.cells cv
  | [], [], f, cv, _ => by simp [fcells]
  | [], _ :: _, _, _, h => by simp at h
  | _ :: _, [], _, _, h => by simp at h
  | g :: fs, c :: cvs, f, cv, h => by
    show g.cells c ++ fcells (fs ++ [f]) (cvs ++ [cv]) = g.cells c ++ fcells fs cvs ++ f.cells cv
    rw [fcells_snoc fs cvs f cv (by simpa using h), List.append_assoc]
theorem fcells_at : ∀ (fs : List FN) (cvs : List Value) (i : Nat) (f : FN) (cv : Value), fs[i]? = some f → cvs[i]? = some cv → ∀ j, j < 4 → (fcells fs cvs)[i * 4 + j]? = (f.cells cv)[j]?
  | [], _, i, f, cv, h, _, _, _ => by simp at h
  | _ :: _, [], i, f, cv, _, h, _, _ => by simp at h
  | g :: fs, c :: cvs, 0, f, cv, h, h', j, hj => by
    simp at h h'
    subst h
    subst h'
    show (g.cells c ++ fcells fs cvs)[0 * 4 + j]? = _
    rw [Nat.zero_mul, Nat.zero_add, List.getElem?_append_left (by simpa [FN.cells] using hj)]
  | g :: fs, c :: cvs, i + 1, f, cv, h, h', j, hj => by
    show (g.cells c ++ fcells fs cvs)[(i + 1) * 4 + j]? = _
    rw [List.getElem?_append_right (by simp [FN.cells]; omega)]
    have := fcells_at fs cvs i f cv (by simpa using h) (by simpa using h') j hj
    rw [← this]
    congr 1
    simp only [FN.cells, List.length_cons, List.length_nil]
    omega
/-- Functions in rows of their own, all apart. -/
structure OwnF (base : Nat) (w : World) (fv : Value) (fs : List FN) (cvs : List Value) : Prop where
  len : cvs.length = fs.length
  row : w.ownsRow base 56 4 fv fs.length (fcells fs cvs)
  at' : ∀ (i : Nat) (f : FN) (cv : Value), fs[i]? = some f → cvs[i]? = some cv → w.ownsRow base 64 2 cv f.code.length (icells f.code)
  apart : ∀ (i j : Nat) (c c' : Value), i < j → cvs[i]? = some c → cvs[j]? = some c' → ∀ q, c.ownBlock = some q → c'.ownBlock ≠ some q
theorem OwnF.kept {S : Nat → Prop} {base : Nat} {w w' : World} {fv : Value} {fs : List FN} {cvs : List Value} (h : OwnF base w fv fs cvs) (hk : Kept S w w') (hS : ∀ q, base ≤ q → ¬ S q) : OwnF base w' fv fs cvs :=
  ⟨h.len, hk.ownsRow h.row (fun q hq => hS q (h.row.lt q hq).1), fun i f cv hf hc => hk.ownsRow (h.at' i f cv hf hc) (fun q hq => hS q ((h.at' i f cv hf hc).lt q hq).1), h.apart⟩
theorem OwnF.kept' {S : Nat → Prop} {base : Nat} {w w' : World} {fv : Value} {fs : List FN} {cvs : List Value} (h : OwnF base w fv fs cvs) (hk : Kept S w w') (h1 : ∀ q, fv.ownBlock = some q → ¬ S q) (h2 : ∀ c ∈ cvs, ∀ q, c.ownBlock = some q → ¬ S q) : OwnF base w' fv fs cvs :=
  ⟨h.len, hk.ownsRow h.row h1, fun i f cv hf hc => hk.ownsRow (h.at' i f cv hf hc) (h2 cv (List.mem_of_getElem? hc)), h.apart⟩
theorem OwnF.nil (base : Nat) (w : World) : OwnF base w (.slice none 0 0) [] [] := ⟨rfl, World.ownsRow_nil _ _ _ _, fun i f cv h => by simp at h, fun i j c c' _ h => by simp at h⟩
theorem OwnF.mem {base : Nat} {w : World} {fv : Value} {fs : List FN} {cvs : List Value} (h : OwnF base w fv fs cvs) {c : Value} (hc : c ∈ cvs) : ∃ (i : Nat) (f : FN), fs[i]? = some f ∧ cvs[i]? = some c ∧ w.ownsRow base 64 2 c f.code.length (icells f.code) := by
  obtain ⟨i, hi, e⟩ := List.mem_iff_getElem.1 hc
  have h1 : cvs[i]? = some c := by rw [List.getElem?_eq_getElem hi, e]
  have hf : i < fs.length := by rw [← h.len]; exact hi
  exact ⟨i, fs[i], List.getElem?_eq_getElem hf, h1, h.at' i _ _ (List.getElem?_eq_getElem hf) h1⟩
theorem OwnF.box {base : Nat} {w w' : World} {fv : Value} {fs : List FN} {cvs : List Value} {B t : Nat} {c : Array Value} (h : OwnF base w fv fs cvs) (hB : w.heap[B]? = some (.cells c t (0, 0))) (h1 : t ≠ 56) (h2 : t ≠ 64) (hk : Kept (fun k => k = B) w w') : OwnF base w' fv fs cvs :=
  h.kept' hk (fun q hq e => by subst e; exact own_box h.row hB h1 hq) (fun c hc q hq e => by
    subst e
    obtain ⟨i, F, _, _, ho⟩ := h.mem hc
    exact own_box ho hB h2 hq)
theorem OwnF.rowF {base : Nat} {w : World} {fv : Value} {fs : List FN} {cvs : List Value} (h : OwnF base w fv fs cvs) : RowF w w.heap.size fv fs := by
  rcases h.row.2 with ⟨rfl, h0⟩ | ⟨g, cap, cur, rfl, hrest⟩
  · exact .inl ⟨List.length_eq_zero_iff.1 h0, _, _, by rw [h0] at *⟩
  · refine .inr ⟨g, 0, cap, rfl, (h.row.lt g rfl).2, fun i f hf => ?_⟩
    have hi : i < fs.length := (List.getElem?_eq_some_iff.1 hf).1
    obtain ⟨cv, hcv⟩ : ∃ cv, cvs[i]? = some cv := ⟨_, List.getElem?_eq_getElem (by rw [h.len]; exact hi)⟩
    have ho := h.at' i f cv hf hcv
    refine ⟨cv, fun j u hj => ?_, rowI_own ho, fun q hq _ => (ho.lt q hq).2⟩
    have hj4 : j < 4 := by
      have := (List.getElem?_eq_some_iff.1 hj).1
      simpa [FN.cells] using this
    have h1 := fcells_at fs cvs i f cv hf hcv j hj4
    rw [hj] at h1
    rw [show 0 + i * 4 + j = i * 4 + j by omega, h.row.cellAt _ (by omega), h1]
theorem Tryz.info56 : (Tryz.prog.info? 56).map (fun i => (i.zero, i.size, i.bytes)) = some (some (.agg #[.int .i64 0, .int .i64 0, .int .i64 0, .slice none 0 0]), 4, 48) := by kernel_rfl
/-- One more function. -/
theorem OwnF.app {base : Nat} {W : World} {fv : Value} {fs : List FN} {cvs : List Value} (h : OwnF base W fv fs cvs) (f : FN) (cv : Value) (hcv : W.ownsRow base 64 2 cv f.code.length (icells f.code)) (hnew : ∀ q, cv.ownBlock = some q → ∀ c ∈ cvs, c.ownBlock ≠ some q) (hone : cv.oneCell' = true) (hb : base ≤ W.heap.size) (hsz : (fs.length + 1) * 48 ≤ 140737488355328) :
    ∃ fv' w', (Builtin.append_ #[23, 23] 23 #[fv, .slice (some ⟨W.heap.size, 0, none⟩) 1 1]).run Tryz.prog (W.alloc (.cells #[.int .i64 f.a, .int .i64 f.l, .int .i64 f.r, cv] 56)) = .ok fv' w' ∧ OwnF base w' fv' (fs ++ [f]) (cvs ++ [cv]) ∧ Kept (fun k => fv.ownBlock = some k) W w' := by
  obtain ⟨i0, hi, hz0, hz1, hz2⟩ := info_parts Tryz.info56
  obtain ⟨v', w', hr, h2, h3, h4, _⟩ := append_old (P := Tryz.prog) (W.alloc (.cells #[.int .i64 f.a, .int .i64 f.l, .int .i64 f.r, cv] 56)) base 23 23 56 i0 _ 4 48 Tryz.underlying23 hi hz0 hz1 hz2 rfl (by decide) fv fs.length (fcells fs cvs) (h.row.alloc _) ⟨W.heap.size, 0, none⟩ 1 1 (f.cells cv) rfl (fun j u hj => by
    rw [Addr.add_lit, cell_block _ _ _ _ _ _ (heap_alloc_new W _), Nat.zero_add]
    simpa [FN.cells] using hj) (fun u hu => by
    simp [FN.cells] at hu
    rcases hu with rfl | rfl | rfl | rfl
    · rfl
    · rfl
    · rfl
    · exact hone) (by unfold maxLen; omega) hsz (by simp; omega)
  have hk : Kept (fun k => fv.ownBlock = some k) W w' := ((Kept.refl _ W).alloc _).grown h3 (fun k hk => .inr hk)
  have hun : ∀ {c : Value} {g : FN}, W.ownsRow base 64 2 c g.code.length (icells g.code) → w'.ownsRow base 64 2 c g.code.length (icells g.code) := fun hc => hk.ownsRow hc (fun q hq e => own_unlike hc h.row (by decide) q hq e)
  refine ⟨v', w', hr, ⟨by simp [h.len], by rw [fcells_snoc _ _ _ _ h.len, List.length_append]; exact h2, fun i F c hF hc => ?_, fun i j c c' hij hc hc' q hq hq' => ?_⟩, hk⟩
  · by_cases hl : i < fs.length
    · rw [List.getElem?_append_left hl] at hF
      rw [List.getElem?_append_left (by rw [h.len]; exact hl)] at hc
      exact hun (h.at' i F c hF hc)
    · have hl2 : i < (fs ++ [f]).length := (List.getElem?_eq_some_iff.1 hF).1
      rw [List.length_append] at hl2
      have hl3 : i = fs.length := by simp at hl2; omega
      subst hl3
      rw [List.getElem?_append_right (Nat.le_refl _)] at hF
      rw [← h.len, List.getElem?_append_right (Nat.le_refl _)] at hc
      simp at hF hc
      subst hF
      subst hc
      exact hun hcv
  · have hjl : j < (cvs ++ [cv]).length := (List.getElem?_eq_some_iff.1 hc').1
    rw [List.length_append] at hjl
    have hil : i < cvs.length := by simp at hjl; omega
    rw [List.getElem?_append_left hil] at hc
    by_cases hl : j < cvs.length
    · rw [List.getElem?_append_left hl] at hc'
      exact h.apart i j c c' hij hc hc' q hq hq'
    · have hl3 : j = cvs.length := by simp at hjl; omega
      subst hl3
      rw [List.getElem?_append_right (Nat.le_refl _)] at hc'
      simp at hc'
      subst hc'
      exact hnew q hq' c (List.mem_of_getElem? hc) hq
/-- A program in memory of its own. -/
structure OwnP (base : Nat) (w : World) (dv fv : Value) (cvs : List Value) (p : PG) : Prop where
  dat : w.ownsRow base 5 1 dv p.data.length (p.data.map (Value.int .u8))
  fns : OwnF base w fv p.fns cvs
theorem OwnP.kept {S : Nat → Prop} {base : Nat} {w w' : World} {dv fv : Value} {cvs : List Value} {p : PG} (h : OwnP base w dv fv cvs p) (hk : Kept S w w') (hS : ∀ q, base ≤ q → ¬ S q) : OwnP base w' dv fv cvs p := ⟨hk.ownsRow h.dat (fun q hq => hS q (h.dat.lt q hq).1), h.fns.kept hk hS⟩
theorem OwnP.pg {base : Nat} {w : World} {dv fv : Value} {cvs : List Value} {p : PG} (h : OwnP base w dv fv cvs p) : PgIs w w.heap.size (.agg #[.int .i64 p.mem, dv, fv]) p :=
  ⟨dv, fv, rfl, isB_own h.dat, fun q hq => (h.dat.lt q hq).2, h.fns.rowF⟩
theorem OwnF.mono {base base' : Nat} {w : World} {fv : Value} {fs : List FN} {cvs : List Value} (h : OwnF base w fv fs cvs) (hb : base' ≤ base) : OwnF base' w fv fs cvs := ⟨h.len, own_mono h.row hb, fun i f cv hf hc => own_mono (h.at' i f cv hf hc) hb, h.apart⟩
theorem OwnP.mono {base base' : Nat} {w : World} {dv fv : Value} {cvs : List Value} {p : PG} (h : OwnP base w dv fv cvs p) (hb : base' ≤ base) : OwnP base' w dv fv cvs p := ⟨own_mono h.dat hb, h.fns.mono hb⟩

theorem four_one (a b c d : Value) (ha : a.oneCell' = true) (hb : b.oneCell' = true) (hc : c.oneCell' = true) (hd : d.oneCell' = true) : #[a, b, c, d].all (·.oneCell') = true := by
  simp [ha, hb, hc, hd]

/-- Instructions behind instructions of its own. -/
theorem app_rows (W : World) (v : Value) (base : Nat) (l : List IN) (ao : Option Addr) (c : Nat) (ys : List IN) (hown : W.ownsRow base 64 2 v l.length (icells l)) (hr : RowI W (.slice ao ys.length c) ys) (hb : base ≤ W.heap.size) (hsz : (l.length + ys.length) * 16 ≤ 140737488355328) (ha : ao = none → ys.length = 0) :
    ∃ (o2 : Option Addr) (c2 : Nat) (w' : World), (Builtin.append_ #[54, 54] 54 #[v, .slice ao ys.length c]).run Tryz.prog W = .ok (.slice o2 (l ++ ys).length c2) w' ∧ w'.ownsRow base 64 2 (.slice o2 (l ++ ys).length c2) (l ++ ys).length (icells (l ++ ys)) ∧ Kept (fun k => v.ownBlock = some k) W w' := by
  obtain ⟨i0, hi, hz0, hz1, hz2⟩ := info_parts Tryz.info64
  cases ao with
  | none =>
    have h0 := ha rfl
    have e : ys = [] := List.length_eq_zero_iff.1 h0
    subst e
    have hrun : (Builtin.append_ #[54, 54] 54 #[v, .slice none 0 c]).run Tryz.prog W = .ok v W := by
      rcases hown.2 with ⟨rfl, h1⟩ | ⟨g, cap, cur, rfl, hb, hg, hn, hm, hs, ht⟩
      · simp [Builtin.append_, run_underlying Tryz.underlying54, sizeOf, typeInfo, hi, Builtin.lenOf, Builtin.firstCells]
      · have h1 : l.length ≤ cap := hn
        simp [Builtin.append_, run_underlying Tryz.underlying54, sizeOf, typeInfo, hi, Builtin.lenOf, Builtin.firstCells, h1, storeCells]
    obtain ⟨o2, c2, rfl⟩ := ownsRow_shape hown
    rw [List.append_nil]
    exact ⟨o2, c2, W, hrun, hown, Kept.refl _ _⟩
  | some p =>
    obtain ⟨v', w', h1, h2, h3, _⟩ := run_append_own (P := Tryz.prog) W base 54 54 64 i0 _ 2 16 Tryz.underlying54 hi hz0 hz1 hz2 rfl (by decide) v l.length (icells l) hown p ys.length c (icells ys) (by rw [icells_length]; omega) (rowI_cells hr) (icells_one ys) (by unfold maxLen; omega) (by omega) hb
    rw [← icells_append] at h2
    obtain ⟨o2, c2, rfl⟩ := ownsRow_shape h2
    rw [List.length_append]
    exact ⟨o2, c2, w', h1, h2, (Kept.refl (fun k => v.ownBlock = some k) W).grown h3 (fun k hk => .inr hk)⟩
theorem fcells_len : ∀ (fs : List FN) (cvs : List Value), cvs.length = fs.length → (fcells fs cvs).length = fs.length * 4
  | [], [], _ => rfl
  | [], _ :: _, h => by simp at h
  | _ :: _, [], h => by simp at h
  | f :: fs, c :: cvs, h => by
    show (f.cells c ++ fcells fs cvs).length = _
    rw [List.length_append, fcells_len fs cvs (by simpa using h), List.length_cons]
    simp [FN.cells]
    omega
theorem fcells_one : ∀ (fs : List FN) (cvs : List Value), (∀ c ∈ cvs, c.oneCell' = true) → ∀ u ∈ fcells fs cvs, u.oneCell' = true
  | [], _, _, u, hu => by simp [fcells] at hu
  | _ :: _, [], _, u, hu => by simp [fcells] at hu
  | f :: fs, c :: cvs, h, u, hu => by
    have hu' : u ∈ f.cells c ++ fcells fs cvs := hu
    rcases List.mem_append.1 hu' with hu | hu
    · simp [FN.cells] at hu
      rcases hu with rfl | rfl | rfl | rfl
      · rfl
      · rfl
      · rfl
      · exact h _ (by simp)
    · exact fcells_one fs cvs (fun c hc => h c (by simp [hc])) u hu
/-- What Twin leaves. -/
def TwinR (p : PG) (w : World) (e : Ending) (w' : World) : Prop := (∃ dv fv cvs, e = .returned (.agg #[.int .i64 p.mem, dv, fv]) ∧ OwnP w.heap.size w' dv fv cvs p) ∧ Kept (fun _ => False) w w'
/-- A row whose block is said. -/
theorem own_at0 {w : World} {b e s n : Nat} {v : Value} {xs : List Value} (h : w.ownsRow b e s v n xs) (hn : 0 < n) : ∃ g c, v = .slice (some ⟨g, 0, none⟩) n c := by
  rcases World.ownsRow.mk' h with ⟨_, e⟩ | ⟨g, cap, e⟩
  · omega
  · exact ⟨g, cap, e⟩
theorem OwnP.setDat {base : Nat} {w : World} {g n c : Nat} {fv : Value} {cvs : List Value} {p : PG} (h : OwnP base w (.slice (some ⟨g, 0, none⟩) n c) fv cvs p) (hn : n = p.data.length) (k : Nat) (x : Int) :
    OwnP base (w.setCell ⟨g, k, none⟩ (.int .u8 x)) (.slice (some ⟨g, 0, none⟩) n c) fv cvs { p with data := p.data.set k x } := by
  have hd := h.dat
  subst hn
  have hks := kept_set w g k (.int .u8 x)
  have hst := (World.ownsRow.stored hd k (.int .u8 x)).1
  refine ⟨?_, h.fns.kept' hks (fun q hq e => by subst e; exact own_unlike h.fns.row hd (by decide) _ hq rfl) (fun c' hc q hq e => by
    subst e
    obtain ⟨i, F, _, _, ho⟩ := h.fns.mem hc
    exact own_unlike ho hd (by decide) _ hq rfl)⟩
  show World.ownsRow _ base 5 1 _ (p.data.set k x).length ((p.data.set k x).map (Value.int .u8))
  rw [List.length_set, List.map_set]
  exact hst
theorem fcells_code : ∀ (fs : List FN) (cvs : List Value) (i : Nat) (f : FN) (ys : List IN), fs[i]? = some f → fcells (fs.set i { f with code := ys }) cvs = fcells fs cvs
  | [], _, i, f, ys, hf => by simp at hf
  | g :: fs, [], i, f, ys, hf => by cases i <;> rfl
  | g :: fs, cv :: cvs, 0, f, ys, hf => by
    have e : g = f := by simpa using hf
    subst e
    rfl
  | g :: fs, cv :: cvs, i + 1, f, ys, hf => by
    have ih := fcells_code fs cvs i f ys (by simpa using hf)
    show g.cells cv ++ fcells (fs.set i { f with code := ys }) cvs = g.cells cv ++ fcells fs cvs
    rw [ih]
theorem icells_set : ∀ (ys : List IN) (k : Nat) (y : IN), k < ys.length → ((icells ys).set (k * 2) (.int .i64 y.op)).set (k * 2 + 1) (.int .i64 y.a) = icells (ys.set k y)
  | [], k, y, h => by simp at h
  | z :: ys, 0, y, h => by
    show ((z.cells ++ icells ys).set 0 _).set 1 _ = y.cells ++ icells ys
    simp [IN.cells]
  | z :: ys, k + 1, y, h => by
    have ih := icells_set ys k y (by simpa using h)
    show ((z.cells ++ icells ys).set ((k + 1) * 2) _).set ((k + 1) * 2 + 1) _ = z.cells ++ icells (ys.set k y)
    rw [List.set_append_right _ _ (by simp [IN.cells]; omega), List.set_append_right _ _ (by simp [IN.cells]; omega), ← ih]
    congr 2
    · congr 1
      simp [IN.cells]
      omega
    · simp [IN.cells]
      omega
theorem OwnP.setCode {base : Nat} {w : World} {g n c i k : Nat} {dv fv : Value} {cvs : List Value} {p : PG} {f : FN} (h : OwnP base w dv fv cvs p) (hf : p.fns[i]? = some f) (hc : cvs[i]? = some (.slice (some ⟨g, 0, none⟩) n c)) (hn : n = f.code.length) (hk : k < f.code.length) (y : IN) :
    OwnP base ((w.setCell ⟨g, k * 2, none⟩ (.int .i64 y.op)).setCell ⟨g, k * 2 + 1, none⟩ (.int .i64 y.a)) dv fv cvs { p with fns := p.fns.set i { f with code := f.code.set k y } } := by
  have ho := h.fns.at' i f _ hf hc
  subst hn
  have hks := (kept_set w g (k * 2) (.int .i64 y.op)).trans (kept_set _ g (k * 2 + 1) (.int .i64 y.a))
  have hst := (World.ownsRow.stored (World.ownsRow.stored ho (k * 2) (.int .i64 y.op)).1 (k * 2 + 1) (.int .i64 y.a)).1
  rw [icells_set f.code k y hk] at hst
  refine ⟨hks.ownsRow h.dat (fun q hq e => by subst e; exact own_unlike h.dat ho (by decide) _ hq rfl), ⟨by show cvs.length = (p.fns.set i _).length; rw [List.length_set]; exact h.fns.len, ?_, fun j G cv hG hcj => ?_, h.fns.apart⟩⟩
  · show World.ownsRow _ base 56 4 fv (p.fns.set i _).length (fcells (p.fns.set i _) cvs)
    rw [List.length_set, fcells_code p.fns cvs i f _ hf]
    exact hks.ownsRow h.fns.row (fun q hq e => by subst e; exact own_unlike h.fns.row ho (by decide) _ hq rfl)
  · have hG2 : (p.fns.set i { f with code := f.code.set k y })[j]? = some G := hG
    clear hG
    rw [List.getElem?_set] at hG2
    split at hG2
    · rename_i e
      subst e
      split at hG2
      · cases hG2
        rw [hc] at hcj
        cases hcj
        show World.ownsRow _ base 64 2 _ (f.code.set k y).length (icells (f.code.set k y))
        rw [List.length_set]
        exact hst
      · cases hG2
    · rename_i hij
      have hoj := h.fns.at' j G cv hG2 hcj
      refine hks.ownsRow hoj (fun q hq e => ?_)
      subst e
      rcases Nat.lt_or_gt_of_ne hij with hlt | hgt
      · exact h.fns.apart i j _ _ hlt hc hcj q rfl hq
      · exact h.fns.apart j i _ _ hgt hcj hc q hq rfl
theorem PG.Ok.setDat {p : PG} (h : p.Ok) (k : Nat) (x : Int) (hx : 0 ≤ x ∧ x ≤ 255) : ({ p with data := p.data.set k x } : PG).Ok :=
  ⟨h.mem, ⟨fun z hz => by
    rcases List.mem_or_eq_of_mem_set hz with hz | rfl
    · exact h.data.1 z hz
    · exact hx, by show (p.data.set k x).length ≤ _; rw [List.length_set]; exact h.data.2⟩, h.fns, h.len⟩
theorem PG.Ok.setFn {p : PG} (h : p.Ok) (i : Nat) (f : FN) (hf : f.Ok) : ({ p with fns := p.fns.set i f } : PG).Ok :=
  ⟨h.mem, h.data, fun z hz => by
    rcases List.mem_or_eq_of_mem_set hz with hz | rfl
    · exact h.fns z hz
    · exact hf, by show (p.fns.set i f).length * 48 ≤ _; rw [List.length_set]; exact h.len⟩
theorem fcells_fn : ∀ (fs : List FN) (cvs : List Value) (i : Nat) (f : FN) (cv : Value), i < fs.length → cvs.length = fs.length → (((((fcells fs cvs).set (i * 4) (.int .i64 f.a)).set (i * 4 + 1) (.int .i64 f.l)).set (i * 4 + 2) (.int .i64 f.r)).set (i * 4 + 3) cv) = fcells (fs.set i f) (cvs.set i cv)
  | [], _, i, f, cv, hf, _ => by simp at hf
  | g :: fs, [], i, f, cv, hf, hl => by simp at hl
  | g :: fs, c :: cvs, 0, f, cv, hf, hl => by
    show ((((g.cells c ++ fcells fs cvs).set 0 _).set 1 _).set 2 _).set 3 _ = f.cells cv ++ fcells fs cvs
    simp [FN.cells]
  | g :: fs, c :: cvs, i + 1, f, cv, hf, hl => by
    have ih := fcells_fn fs cvs i f cv (by simpa using hf) (by simpa using hl)
    show ((((g.cells c ++ fcells fs cvs).set ((i + 1) * 4) _).set ((i + 1) * 4 + 1) _).set ((i + 1) * 4 + 2) _).set ((i + 1) * 4 + 3) _ = g.cells c ++ fcells (fs.set i f) (cvs.set i cv)
    have hlc : (g.cells c).length = 4 := rfl
    rw [List.set_append_right _ _ (by rw [hlc]; omega), List.set_append_right _ _ (by rw [hlc]; omega), List.set_append_right _ _ (by rw [hlc]; omega), List.set_append_right _ _ (by rw [hlc]; omega), ← ih, hlc]
    rw [show (i + 1) * 4 - 4 = i * 4 by omega, show (i + 1) * 4 + 1 - 4 = i * 4 + 1 by omega, show (i + 1) * 4 + 2 - 4 = i * 4 + 2 by omega, show (i + 1) * 4 + 3 - 4 = i * 4 + 3 by omega]
theorem OwnP.setNil {base : Nat} {w : World} {g n c i : Nat} {dv : Value} {cvs : List Value} {p : PG} (h : OwnP base w dv (.slice (some ⟨g, 0, none⟩) n c) cvs p) (hn : n = p.fns.length) (hi : i < p.fns.length) (a : Int) :
    OwnP base ((((w.setCell ⟨g, i * 4, none⟩ (.int .i64 a)).setCell ⟨g, i * 4 + 1, none⟩ (.int .i64 0)).setCell ⟨g, i * 4 + 2, none⟩ (.int .i64 0)).setCell ⟨g, i * 4 + 3, none⟩ (.slice none 0 0)) dv (.slice (some ⟨g, 0, none⟩) n c) (cvs.set i (.slice none 0 0)) { p with fns := p.fns.set i ⟨a, 0, 0, []⟩ } := by
  have hr := h.fns.row
  subst hn
  have hks := ((((kept_set w g (i * 4) (.int .i64 a)).trans (kept_set _ g (i * 4 + 1) (.int .i64 0))).trans (kept_set _ g (i * 4 + 2) (.int .i64 0))).trans (kept_set _ g (i * 4 + 3) (.slice none 0 0)))
  have hst := (World.ownsRow.stored (World.ownsRow.stored (World.ownsRow.stored (World.ownsRow.stored hr (i * 4) (.int .i64 a)).1 (i * 4 + 1) (.int .i64 0)).1 (i * 4 + 2) (.int .i64 0)).1 (i * 4 + 3) (.slice none 0 0)).1
  rw [fcells_fn p.fns cvs i ⟨a, 0, 0, []⟩ (.slice none 0 0) hi h.fns.len] at hst
  refine ⟨hks.ownsRow h.dat (fun q hq e => by subst e; exact own_unlike h.dat hr (by decide) _ hq rfl), ⟨by show (cvs.set i _).length = (p.fns.set i _).length; rw [List.length_set, List.length_set]; exact h.fns.len, by show World.ownsRow _ base 56 4 _ (p.fns.set i _).length _; rw [List.length_set]; exact hst, fun j G cv hG hc => ?_, fun j k c' c'' hjk hc1 hc2 q hq hq' => ?_⟩⟩
  · have hG2 : (p.fns.set i ⟨a, 0, 0, []⟩)[j]? = some G := hG
    clear hG
    rw [List.getElem?_set] at hG2 hc
    by_cases e : i = j
    · subst e
      rw [if_pos rfl] at hG2 hc
      rw [if_pos hi] at hG2
      rw [if_pos (by rw [h.fns.len]; exact hi)] at hc
      cases hG2
      cases hc
      exact World.ownsRow_nil _ _ _ _
    · rw [if_neg e] at hG2 hc
      have ho := h.fns.at' j G cv hG2 hc
      exact hks.ownsRow ho (fun q hq e => by subst e; exact own_unlike ho hr (by decide) _ hq rfl)
  · rw [List.getElem?_set] at hc1 hc2
    by_cases e1 : i = j
    · rw [if_pos e1, if_pos (by rw [h.fns.len]; exact hi)] at hc1
      cases hc1
      cases hq
    · rw [if_neg e1] at hc1
      by_cases e2 : i = k
      · rw [if_pos e2, if_pos (by rw [h.fns.len]; exact hi)] at hc2
        cases hc2
        cases hq'
      · rw [if_neg e2] at hc2
        exact h.fns.apart j k c' c'' hjk hc1 hc2 q hq hq'
theorem FnAt.up {w : World} {B B' g o : Nat} {f : FN} (h : FnAt w B g o f) (hb : B ≤ B') : FnAt w B' g o f := by
  obtain ⟨cv, h1, h2, h3⟩ := h
  exact ⟨cv, h1, h2, fun q hq h0 => Nat.lt_of_lt_of_le (h3 q hq h0) hb⟩
theorem RowF.up {w : World} {B B' : Nat} {v : Value} {fs : List FN} (h : RowF w B v fs) (hb : B ≤ B') : RowF w B' v fs := by
  rcases h with h | ⟨g, o, c, e, hg, h⟩
  · exact .inl h
  · exact .inr ⟨g, o, c, e, Nat.lt_of_lt_of_le hg hb, fun i f hf => (h i f hf).up hb⟩
theorem PgIs.up {w : World} {B B' : Nat} {v : Value} {p : PG} (h : PgIs w B v p) (hb : B ≤ B') : PgIs w B' v p := by
  obtain ⟨dv, fv, e, h1, h2, h3⟩ := h
  exact ⟨dv, fv, e, h1, fun q hq => Nat.lt_of_lt_of_le (h2 q hq) hb, h3.up hb⟩
theorem size25p : (Tryz.prog.info? 25).map (·.size) = some 3 := by kernel_rfl
theorem size56p : (Tryz.prog.info? 56).map (·.size) = some 4 := by kernel_rfl
section
variable {P : Program} {ops : Array Oper} {o : Oper} {a : Act} {w : World} {K : Act → World → Prop} {Q : Exit → Act → World → Prop} {E : Prop}
theorem stp_app (hgd : o.guard = none) (s x : Operand) (t u : TypeId) (ho : o.op = .call { callee := .builtin .append, args := #[s, x], argTypes := #[t, u] }) (v bv : Value) (hs : a.eval s = v) (hx : a.eval x = bv) (v' : Value) (w' : World)
    (hr : (Builtin.append_ #[t, u] o.type #[v, bv]).run P w = .ok v' w') (h : K (a.put o.dst v') w') : if Region.wanted o (yielded ops a.tmps) = true then Oper.wp P o a w K Q else E := by
  have hw : Region.wanted o (yielded ops a.tmps) = true := by simp [Region.wanted, hgd]
  rw [if_pos hw]
  unfold Oper.wp execOp
  simp only [ho, resolve, invoke, builtin, Sem.run_bind, Sem.run_pure, Result.andThen_ok, List.map_toArray, List.map_cons, List.map_nil, hs, hx, hr]
  exact h
end
end Go.Proofs.YtcaadgcfceommaaGreat

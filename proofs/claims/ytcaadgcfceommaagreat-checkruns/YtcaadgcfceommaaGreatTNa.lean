import Derived.Test.YtcaadgcfceommaaGreatTQs
import Derived.Test.YtcaadgcfceommaaGreatTPa
import Derived.Test.YtcaadgcfceommaaGreatTKa
namespace Go.Proofs.YtcaadgcfceommaaGreat
open Go.ChangeShapes Go.WideShapes Go.ChangeAt Go.RowKit Go.Deep
set_option linter.unusedVariables false
set_option linter.unusedSimpArgs false
set_option maxRecDepth 100000
theorem icells_one (ys : List IN) : ∀ u ∈ icells ys, u.oneCell' = true := by
 intro u hu
 obtain ⟨y, _, hy⟩ := List.mem_flatMap.1 hu
 simp [IN.cells] at hy
 rcases hy with rfl | rfl <;> rfl
theorem rowI_cells {w : World} {a : Addr} {c : Nat} {ys : List IN} (h : RowI w (.slice (some a) ys.length c) ys) : ∀ j v, (icells ys)[j]? = some v → w.cell? (a.add j) = some v := by
 intro j v hj
 have hl := (List.getElem?_eq_some_iff.1 hj).1
 rw [icells_length ys] at hl
 rcases h with ⟨e, _⟩ | ⟨g, o, c', e, hc⟩
 ·rw [e] at hl; simp at hl
 ·cases e
  have hq : j / 2 < ys.length := by omega
  obtain ⟨y, hyi⟩ : ∃ y, ys[j / 2]? = some y := ⟨_, List.getElem?_eq_getElem hq⟩
  have hat := icells_at ys (j / 2) y hyi (j % 2) (by omega)
  rw [show j / 2 * 2 + j % 2 = j by omega, hj] at hat
  have := hc (j / 2) y hyi (j % 2) v hat.symm
  rw [Addr.add_lit, show o + j = o + j / 2 * 2 + j % 2 by omega]
  exact this
theorem own_unlike {w : World} {b b' e e' s s' n n' : Nat} {v v' : Value} {xs xs' : List Value} (h : w.ownsRow b e s v n xs) (h' : w.ownsRow b' e' s' v' n' xs') (hne : e ≠ e') : ∀ q, v.ownBlock = some q → v'.ownBlock ≠ some q := by
 intro q hq hq'
 rcases h.2 with ⟨rfl, _⟩ | ⟨g, cap, cur, rfl, _, hg, _⟩
 ·cases hq
 ·rcases h'.2 with ⟨rfl, _⟩ | ⟨g', cap', cur', rfl, _, hg', _⟩
  ·cases hq'
  ·have e1 : g = q := Option.some.inj hq
   have e2 : g' = q := Option.some.inj hq'
   subst e1
   subst e2
   rw [hg] at hg'
   cases hg'
   exact hne rfl
theorem own_box {w : World} {b e s n t B : Nat} {v : Value} {xs : List Value} {c : Array Value} (h : w.ownsRow b e s v n xs) (hB : w.heap[B]? = some (.cells c t (0, 0))) (hne : t ≠ e) : v.ownBlock ≠ some B := by
 intro hq
 rcases h.2 with ⟨rfl, _⟩ | ⟨g, cap, cur, rfl, _, hg, _⟩
 ·cases hq
 ·have e1 : g = B := Option.some.inj hq
  subst e1
  rw [hg] at hB
  cases hB
  exact hne rfl
def fcells : List FN → List Value → List Value
 | f :: fs, cv :: cvs => f.cells cv ++ fcells fs cvs
 | _, _ => []
theorem fcells_snoc : ∀ (fs : List FN) (cvs : List Value) (f : FN) (cv : Value), cvs.length = fs.length → fcells (fs ++ [f]) (cvs ++ [cv]) = fcells fs cvs ++ f.cells cv
 | [], [], f, cv, _ => by simp [fcells]
 | [], _ :: _, _, _, h => by simp at h
 | _ :: _, [], _, _, h => by simp at h
 | g :: fs, c :: cvs, f, cv, h => by
  show g.cells c ++ fcells (fs ++ [f]) (cvs ++ [cv]) = g.cells c ++ fcells fs cvs ++ f.cells cv
  rw [fcells_snoc fs cvs f cv (by simpa using h), List.append_assoc]
theorem fcells_at : ∀ (fs : List FN) (cvs : List Value) (i : Nat) (f : FN) (cv : Value), fs[i]? = some f → cvs[i]? = some cv → ∀ j, j < 4 → (fcells fs cvs)[i * 4 + j]? = (f.cells cv)[j]?
 | [], _, i, f, cv, h, _, _, _ => by simp at h
 | _ :: _, [], i, f, cv, _, h, _, _ => by simp at h
 | g :: fs, c :: cvs, 0, f, cv, h, h', j, hj => by
  simp at h h'
  subst h
  subst h'
  show (g.cells c ++ fcells fs cvs)[0 * 4 + j]? = _
  rw [Nat.zero_mul, Nat.zero_add, List.getElem?_append_left (by simpa [FN.cells] using hj)]
 | g :: fs, c :: cvs, i + 1, f, cv, h, h', j, hj => by
  show (g.cells c ++ fcells fs cvs)[(i + 1) * 4 + j]? = _
  rw [List.getElem?_append_right (by simp [FN.cells]; omega)]
  have := fcells_at fs cvs i f cv (by simpa using h) (by simpa using h') j hj
  rw [← this]
  congr 1
  simp only [FN.cells, List.length_cons, List.length_nil]
  omega
structure OwnF (base : Nat) (w : World) (fv : Value) (fs : List FN) (cvs : List Value) : Prop where
 len : cvs.length = fs.length
 row : w.ownsRow base 56 4 fv fs.length (fcells fs cvs)
 at' : ∀ (i : Nat) (f : FN) (cv : Value), fs[i]? = some f → cvs[i]? = some cv → w.ownsRow base 64 2 cv f.code.length (icells f.code)
 apart : ∀ (i j : Nat) (c c' : Value), i < j → cvs[i]? = some c → cvs[j]? = some c' → ∀ q, c.ownBlock = some q → c'.ownBlock ≠ some q
theorem OwnF.kept {S : Nat → Prop} {base : Nat} {w w' : World} {fv : Value} {fs : List FN} {cvs : List Value} (h : OwnF base w fv fs cvs) (hk : Kept S w w') (hS : ∀ q, base ≤ q → ¬ S q) : OwnF base w' fv fs cvs :=
 ⟨h.len, hk.ownsRow h.row (fun q hq => hS q (h.row.lt q hq).1), fun i f cv hf hc => hk.ownsRow (h.at' i f cv hf hc) (fun q hq => hS q ((h.at' i f cv hf hc).lt q hq).1), h.apart⟩
theorem OwnF.kept' {S : Nat → Prop} {base : Nat} {w w' : World} {fv : Value} {fs : List FN} {cvs : List Value} (h : OwnF base w fv fs cvs) (hk : Kept S w w') (h1 : ∀ q, fv.ownBlock = some q → ¬ S q) (h2 : ∀ c ∈ cvs, ∀ q, c.ownBlock = some q → ¬ S q) : OwnF base w' fv fs cvs :=
 ⟨h.len, hk.ownsRow h.row h1, fun i f cv hf hc => hk.ownsRow (h.at' i f cv hf hc) (h2 cv (List.mem_of_getElem? hc)), h.apart⟩
theorem OwnF.nil (base : Nat) (w : World) : OwnF base w (.slice none 0 0) [] [] := ⟨rfl, World.ownsRow_nil _ _ _ _, fun i f cv h => by simp at h, fun i j c c' _ h => by simp at h⟩
theorem OwnF.mem {base : Nat} {w : World} {fv : Value} {fs : List FN} {cvs : List Value} (h : OwnF base w fv fs cvs) {c : Value} (hc : c ∈ cvs) : ∃ (i : Nat) (f : FN), fs[i]? = some f ∧ cvs[i]? = some c ∧ w.ownsRow base 64 2 c f.code.length (icells f.code) := by
 obtain ⟨i, hi, e⟩ := List.mem_iff_getElem.1 hc
 have h1 : cvs[i]? = some c := by rw [List.getElem?_eq_getElem hi, e]
 have hf : i < fs.length := by rw [← h.len]; exact hi
 exact ⟨i, fs[i], List.getElem?_eq_getElem hf, h1, h.at' i _ _ (List.getElem?_eq_getElem hf) h1⟩
theorem OwnF.box {base : Nat} {w w' : World} {fv : Value} {fs : List FN} {cvs : List Value} {B t : Nat} {c : Array Value} (h : OwnF base w fv fs cvs) (hB : w.heap[B]? = some (.cells c t (0, 0))) (h1 : t ≠ 56) (h2 : t ≠ 64) (hk : Kept (fun k => k = B) w w') : OwnF base w' fv fs cvs :=
 h.kept' hk (fun q hq e => by subst e; exact own_box h.row hB h1 hq) (fun c hc q hq e => by
  subst e
  obtain ⟨i, F, _, _, ho⟩ := h.mem hc
  exact own_box ho hB h2 hq)
theorem Tryz.info56 : (Tryz.prog.info? 56).map (fun i => (i.zero, i.size, i.bytes)) = some (some (.agg #[.int .i64 0, .int .i64 0, .int .i64 0, .slice none 0 0]), 4, 48) := by kernel_rfl
theorem OwnF.app {base : Nat} {W : World} {fv : Value} {fs : List FN} {cvs : List Value} (h : OwnF base W fv fs cvs) (f : FN) (cv : Value) (hcv : W.ownsRow base 64 2 cv f.code.length (icells f.code)) (hnew : ∀ q, cv.ownBlock = some q → ∀ c ∈ cvs, c.ownBlock ≠ some q) (hone : cv.oneCell' = true) (hb : base ≤ W.heap.size) (hsz : (fs.length + 1) * 48 ≤ 140737488355328) :
  ∃ fv' w', (Builtin.append_ #[23, 23] 23 #[fv, .slice (some ⟨W.heap.size, 0, none⟩) 1 1]).run Tryz.prog (W.alloc (.cells #[.int .i64 f.a, .int .i64 f.l, .int .i64 f.r, cv] 56)) = .ok fv' w' ∧ OwnF base w' fv' (fs ++ [f]) (cvs ++ [cv]) ∧ Kept (fun k => fv.ownBlock = some k) W w' := by
 obtain ⟨i0, hi, hz0, hz1, hz2⟩ := info_parts Tryz.info56
 obtain ⟨v', w', hr, h2, h3, h4, _⟩ := append_old (P := Tryz.prog) (W.alloc (.cells #[.int .i64 f.a, .int .i64 f.l, .int .i64 f.r, cv] 56)) base 23 23 56 i0 _ 4 48 Tryz.underlying23 hi hz0 hz1 hz2 rfl (by decide) fv fs.length (fcells fs cvs) (h.row.alloc _) ⟨W.heap.size, 0, none⟩ 1 1 (f.cells cv) rfl (fun j u hj => by
  rw [Addr.add_lit, cell_block _ _ _ _ _ _ (heap_alloc_new W _), Nat.zero_add]
  simpa [FN.cells] using hj) (fun u hu => by
  simp [FN.cells] at hu
  rcases hu with rfl | rfl | rfl | rfl
  ·rfl
  ·rfl
  ·rfl
  ·exact hone) (by unfold maxLen; omega) hsz (by simp; omega)
 have hk : Kept (fun k => fv.ownBlock = some k) W w' := ((Kept.refl _ W).alloc _).grown h3 (fun k hk => .inr hk)
 have hun : ∀ {c : Value} {g : FN}, W.ownsRow base 64 2 c g.code.length (icells g.code) → w'.ownsRow base 64 2 c g.code.length (icells g.code) := fun hc => hk.ownsRow hc (fun q hq e => own_unlike hc h.row (by decide) q hq e)
 refine ⟨v', w', hr, ⟨by simp [h.len], by rw [fcells_snoc _ _ _ _ h.len, List.length_append]; exact h2, fun i F c hF hc => ?_, fun i j c c' hij hc hc' q hq hq' => ?_⟩, hk⟩
 ·by_cases hl : i < fs.length
  ·rw [List.getElem?_append_left hl] at hF
   rw [List.getElem?_append_left (by rw [h.len]; exact hl)] at hc
   exact hun (h.at' i F c hF hc)
  ·have hl2 : i < (fs ++ [f]).length := (List.getElem?_eq_some_iff.1 hF).1
   rw [List.length_append] at hl2
   have hl3 : i = fs.length := by simp at hl2; omega
   subst hl3
   rw [List.getElem?_append_right (Nat.le_refl _)] at hF
   rw [← h.len, List.getElem?_append_right (Nat.le_refl _)] at hc
   simp at hF hc
   subst hF
   subst hc
   exact hun hcv
 ·have hjl : j < (cvs ++ [cv]).length := (List.getElem?_eq_some_iff.1 hc').1
  rw [List.length_append] at hjl
  have hil : i < cvs.length := by simp at hjl; omega
  rw [List.getElem?_append_left hil] at hc
  by_cases hl : j < cvs.length
  ·rw [List.getElem?_append_left hl] at hc'
   exact h.apart i j c c' hij hc hc' q hq hq'
  ·have hl3 : j = cvs.length := by simp at hjl; omega
   subst hl3
   rw [List.getElem?_append_right (Nat.le_refl _)] at hc'
   simp at hc'
   subst hc'
   exact hnew q hq' c (List.mem_of_getElem? hc) hq
structure OwnP (base : Nat) (w : World) (dv fv : Value) (cvs : List Value) (p : PG) : Prop where
 dat : w.ownsRow base 5 1 dv p.data.length (p.data.map (Value.int .u8))
 fns : OwnF base w fv p.fns cvs
theorem OwnP.kept {S : Nat → Prop} {base : Nat} {w w' : World} {dv fv : Value} {cvs : List Value} {p : PG} (h : OwnP base w dv fv cvs p) (hk : Kept S w w') (hS : ∀ q, base ≤ q → ¬ S q) : OwnP base w' dv fv cvs p := ⟨hk.ownsRow h.dat (fun q hq => hS q (h.dat.lt q hq).1), h.fns.kept hk hS⟩
theorem OwnF.mono {base base' : Nat} {w : World} {fv : Value} {fs : List FN} {cvs : List Value} (h : OwnF base w fv fs cvs) (hb : base' ≤ base) : OwnF base' w fv fs cvs := ⟨h.len, own_mono h.row hb, fun i f cv hf hc => own_mono (h.at' i f cv hf hc) hb, h.apart⟩
theorem OwnP.mono {base base' : Nat} {w : World} {dv fv : Value} {cvs : List Value} {p : PG} (h : OwnP base w dv fv cvs p) (hb : base' ≤ base) : OwnP base' w dv fv cvs p := ⟨own_mono h.dat hb, h.fns.mono hb⟩
theorem app_rows (W : World) (v : Value) (base : Nat) (l : List IN) (ao : Option Addr) (c : Nat) (ys : List IN) (hown : W.ownsRow base 64 2 v l.length (icells l)) (hr : RowI W (.slice ao ys.length c) ys) (hb : base ≤ W.heap.size) (hsz : (l.length + ys.length) * 16 ≤ 140737488355328) (ha : ao = none → ys.length = 0) :
  ∃ (o2 : Option Addr) (c2 : Nat) (w' : World), (Builtin.append_ #[54, 54] 54 #[v, .slice ao ys.length c]).run Tryz.prog W = .ok (.slice o2 (l ++ ys).length c2) w' ∧ w'.ownsRow base 64 2 (.slice o2 (l ++ ys).length c2) (l ++ ys).length (icells (l ++ ys)) ∧ Kept (fun k => v.ownBlock = some k) W w' := by
 obtain ⟨i0, hi, hz0, hz1, hz2⟩ := info_parts Tryz.info64
 cases ao with
 | none =>
  have h0 := ha rfl
  have e : ys = [] := List.length_eq_zero_iff.1 h0
  subst e
  have hrun : (Builtin.append_ #[54, 54] 54 #[v, .slice none 0 c]).run Tryz.prog W = .ok v W := by
   rcases hown.2 with ⟨rfl, h1⟩ | ⟨g, cap, cur, rfl, hb, hg, hn, hm, hs, ht⟩
   ·simp [Builtin.append_, run_underlying Tryz.underlying54, sizeOf, typeInfo, hi, Builtin.lenOf, Builtin.firstCells]
   ·have h1 : l.length ≤ cap := hn
    simp [Builtin.append_, run_underlying Tryz.underlying54, sizeOf, typeInfo, hi, Builtin.lenOf, Builtin.firstCells, h1, storeCells]
  obtain ⟨o2, c2, rfl⟩ := ownsRow_shape hown
  rw [List.append_nil]
  exact ⟨o2, c2, W, hrun, hown, Kept.refl _ _⟩
 | some p =>
  obtain ⟨v', w', h1, h2, h3, _⟩ := run_append_own (P := Tryz.prog) W base 54 54 64 i0 _ 2 16 Tryz.underlying54 hi hz0 hz1 hz2 rfl (by decide) v l.length (icells l) hown p ys.length c (icells ys) (by rw [icells_length]; omega) (rowI_cells hr) (icells_one ys) (by unfold maxLen; omega) (by omega) hb
  rw [← icells_append] at h2
  obtain ⟨o2, c2, rfl⟩ := ownsRow_shape h2
  rw [List.length_append]
  exact ⟨o2, c2, w', h1, h2, (Kept.refl (fun k => v.ownBlock = some k) W).grown h3 (fun k hk => .inr hk)⟩
theorem fcells_len : ∀ (fs : List FN) (cvs : List Value), cvs.length = fs.length → (fcells fs cvs).length = fs.length * 4
 | [], [], _ => rfl
 | [], _ :: _, h => by simp at h
 | _ :: _, [], h => by simp at h
 | f :: fs, c :: cvs, h => by
  show (f.cells c ++ fcells fs cvs).length = _
  rw [List.length_append, fcells_len fs cvs (by simpa using h), List.length_cons]
  simp [FN.cells]
  omega
def TwinR (p : PG) (w : World) (e : Ending) (w' : World) : Prop := (∃ dv fv cvs, e = .returned (.agg #[.int .i64 p.mem, dv, fv]) ∧ OwnP w.heap.size w' dv fv cvs p) ∧ KF w w'
theorem own_at0 {w : World} {b e s n : Nat} {v : Value} {xs : List Value} (h : w.ownsRow b e s v n xs) (hn : 0 < n) : ∃ g c, v = .slice (some ⟨g, 0, none⟩) n c := by
 rcases World.ownsRow.mk' h with ⟨_, e⟩ | ⟨g, cap, e⟩
 ·omega
 ·exact ⟨g, cap, e⟩
theorem FnAt.up {w : World} {B B' g o : Nat} {f : FN} (h : FnAt w B g o f) (hb : B ≤ B') : FnAt w B' g o f := by
 obtain ⟨cv, h1, h2, h3⟩ := h
 exact ⟨cv, h1, h2, fun q hq h0 => Nat.lt_of_lt_of_le (h3 q hq h0) hb⟩
theorem RowF.up {w : World} {B B' : Nat} {v : Value} {fs : List FN} (h : RowF w B v fs) (hb : B ≤ B') : RowF w B' v fs := by
 rcases h with h | ⟨g, o, c, e, hg, h⟩
 ·exact .inl h
 ·exact .inr ⟨g, o, c, e, Nat.lt_of_lt_of_le hg hb, fun i f hf => (h i f hf).up hb⟩
theorem PgIs.up {w : World} {B B' : Nat} {v : Value} {p : PG} (h : PgIs w B v p) (hb : B ≤ B') : PgIs w B' v p := by
 obtain ⟨dv, fv, e, h1, h2, h3⟩ := h
 exact ⟨dv, fv, e, h1, fun q hq => Nat.lt_of_lt_of_le (h2 q hq) hb, h3.up hb⟩
theorem size25p : (Tryz.prog.info? 25).map (·.size) = some 3 := by kernel_rfl
section
variable {P : Program} {ops : Array Oper} {o : Oper} {a : Act} {w : World} {K : Act → World → Prop} {Q : Exit → Act → World → Prop} {E : Prop}
theorem stp_app (hgd : o.guard = none) (s x : Operand) (t u : TypeId) (ho : o.op = .call { callee := .builtin .append, args := #[s, x], argTypes := #[t, u] }) (v bv : Value) (hs : a.eval s = v) (hx : a.eval x = bv) (v' : Value) (w' : World)
  (hr : (Builtin.append_ #[t, u] o.type #[v, bv]).run P w = .ok v' w') (h : K (a.put o.dst v') w') : if Region.wanted o (yielded ops a.tmps) = true then Oper.wp P o a w K Q else E := by
 have hw : Region.wanted o (yielded ops a.tmps) = true := by simp [Region.wanted, hgd]
 rw [if_pos hw]
 unfold Oper.wp execOp
 simp only [ho, resolve, invoke, builtin, Sem.run_bind, Sem.run_pure, Result.andThen_ok, List.map_toArray, List.map_cons, List.map_nil, hs, hx, hr]
 exact h
end
section
variable {P : Program} {ops : Array Oper} {o : Oper} {a : Act} {w : World} {K : Act → World → Prop} {Q : Exit → Act → World → Prop} {E : Prop}
theorem stp_store_row (hgd : o.guard = none) (ty : TypeId) (x y : Operand) (ho : o.op = .store ty x y)
  (g : Nat) (cells : Array Value) (hx : a.eval x = .pointer (some ⟨g, 0, none⟩)) (hy : a.eval y = .agg cells)
  (t : TypeId) (old : Array Value) (hg : w.heap[g]? = some (.cells old t (0, 0))) (hi : (P.info? ty).map (·.size) = some cells.size)
  (hold : old.size = cells.size) (h1 : cells.all (·.oneCell') = true)
  (h : K (a.put o.dst undef) (w.setRow g cells)) : if Region.wanted o (yielded ops a.tmps) = true then Oper.wp P o a w K Q else E := by
 have hw : Region.wanted o (yielded ops a.tmps) = true := by simp [Region.wanted, hgd]
 rw [if_pos hw]
 exact wp_store_row ty x y ho g cells hx hy t old hg hi hold h1 h
end
theorem own_emp {w : World} {base e s g : Nat} (h : w.heap[g]? = some (.cells #[] e (0, 0))) (hb : base ≤ g) : w.ownsRow base e s (.slice (some ⟨g, 0, none⟩) 0 0) 0 [] :=
 ⟨by simp, .inr ⟨g, 0, #[], rfl, hb, h, Nat.le_refl _, by decide, by simp, by simp⟩⟩
structure RtK (w wr : World) (gb g3 : Nat) (mem : Int) (dvp fvp dv fv : Value) (p : PG) (k : Nat) (cvs : List Value) : Prop where
 box : wr.heap[gb]? = some (.cells #[.int .i64 mem, dvp, fvp] 25 (0, 0))
 res : wr.heap[gb + 1]? = some (.cells #[.int .i64 0, .slice none 0 0, .slice none 0 0] 25 (0, 0))
 blk : wr.heap[g3]? = some (.cells #[.int .i64 mem, dv, fv] 25 (0, 0))
 own : OwnF w.heap.size wr fv (p.fns.take k) cvs
 dat : wr.ownsRow w.heap.size 5 1 dv p.data.length (p.data.map (Value.int .u8))
 kept : KF w wr
 off : w.heap.size = gb ∧ gb + 1 < g3
theorem RtK.next {w wr W : World} {gb g3 : Nat} {mem : Int} {dvp fvp dv fv cv : Value} {p : PG} {k : Nat} {cvs : List Value} {f : FN} (h : RtK w wr gb g3 mem dvp fvp dv fv p k cvs) (hf : p.fns[k]? = some f) (hk : KF wr W) (hcv : W.ownsRow wr.heap.size 64 2 cv f.code.length (icells f.code)) (hone : cv.oneCell' = true) (hsz : p.fns.length * 48 ≤ 140737488355328) :
  ∃ fv' w7, (Builtin.append_ #[23, 23] 23 #[fv, .slice (some ⟨W.heap.size, 0, none⟩) 1 1]).run Tryz.prog (W.alloc (.cells #[.int .i64 f.a, .int .i64 f.l, .int .i64 f.r, cv] 56)) = .ok fv' w7 ∧ w7.heap[g3]? = some (.cells #[.int .i64 mem, dv, fv] 25 (0, 0)) ∧ RtK w (w7.setCell ⟨g3, 2, none⟩ fv') gb g3 mem dvp fvp dv fv' p (k + 1) (cvs ++ [cv]) := by
 have hlt : k < p.fns.length := (List.getElem?_eq_some_iff.1 hf).1
 have hlen : (p.fns.take k).length = k := by rw [List.length_take]; omega
 have hown := h.own.kept hk (fun _ _ f => f)
 have hbW : w.heap.size ≤ W.heap.size := Nat.le_trans h.kept.size hk.size
 obtain ⟨fv', w7, hr, hO, hka⟩ := hown.app f cv (own_mono hcv h.kept.size) (fun q hq c hc e => by
  obtain ⟨i, G, _, _, hG⟩ := h.own.mem hc
  have h1 := (hcv.lt q hq).1
  have h2 := (hG.lt q e).2
  omega) hone hbW (by rw [hlen]; omega)
 have blkW := box_kept hk h.blk id
 have boxW := box_kept hk h.box id
 have resW := box_kept hk h.res id
 have datW := hk.ownsRow h.dat (fun _ _ f => f)
 have blk7 := box_kept hka blkW (own_box hown.row blkW (by decide))
 have box7 := box_kept hka boxW (own_box hown.row boxW (by decide))
 have res7 := box_kept hka resW (own_box hown.row resW (by decide))
 have dat7 := hka.ownsRow datW (fun q hq e => own_unlike datW hown.row (by decide) q hq e)
 have hks := kept_set w7 g3 2 fv'
 have ho := h.off
 refine ⟨fv', w7, hr, blk7, ⟨box_kept hks box7 (by omega), box_kept hks res7 (by omega), set_block _ g3 2 _ _ _ blk7 fv', ?_, hks.ownsRow dat7 (fun q hq e => by subst e; exact own_box dat7 blk7 (by decide) hq), ?_, ho⟩⟩
 ·have e : p.fns.take (k + 1) = p.fns.take k ++ [f] := by rw [List.take_add_one, hf]; rfl
  rw [e]
  exact hO.box blk7 (by decide) (by decide) hks
 ·exact ((h.kept.trans hk).step hka (fun i hi e => by have := (hown.row.lt i e).1; omega)).step hks (fun i hi e => by omega)
theorem RtK.done {w wr w' : World} {gb g3 : Nat} {mem : Int} {dvp fvp dv fv : Value} {p : PG} {cvs : List Value} (h : RtK w wr gb g3 mem dvp fvp dv fv p p.fns.length cvs) (hk : Kept (fun q => q = gb + 1) wr w') : OwnP w.heap.size w' dv fv cvs p ∧ KF w w' := by
 have h1 := h.own
 rw [List.take_length] at h1
 exact ⟨⟨hk.ownsRow h.dat (fun q hq e => by subst e; exact own_box h.dat h.res (by decide) hq), h1.box h.res (by decide) (by decide) hk⟩, h.kept.step hk (fun i hi e => by have := h.off; omega)⟩
theorem leaf_cut5 {A B C D E : Type} {X : Prop} (H M : A → B → C → D → E → Prop) (h : ∀ w c t i g, H w c t i g → M w c t i g) (k : (∀ w c t i g, H w c t i g → M w c t i g) → X) : X := k h
set_option maxHeartbeats 32000000 in
theorem rtwin_p (v : Value) (p : PG) (w : World) (B : Nat) (h : PgIs w B v p) (hB : B ≤ w.heap.size) (ho : p.Ok) : Calls Tryz.prog 32 #[v] w (TwinR p w) := by
 obtain ⟨dv, fv, rfl, hd, hdl, hf⟩ := h
 obtain ⟨dao, dc, rfl⟩ := hd.shape
 obtain ⟨fao, fc, rfl⟩ := hf.shape
 have hbd := ho.data.2
 have hlf := ho.len
 have HD := hid_of hd
 have HF := hid_of hf
 have HO := hid_of ho
 obtain ⟨nd, hnd⟩ := nmd (p.data.length)
 obtain ⟨nf, hnf⟩ := nmd (p.fns.length)
 obtain ⟨mem, hmem⟩ := nmd (p.mem)
 have HNF := hid_of hnf
 have HND := hid_of hnd
 have HMEM := hid_of hmem
 have HB0 := hid_of hB
 have HLF := hid_of hlf
 rw [← hmem, ← hnd, ← hnf] at ⊢
 rw [← hnd] at HD hbd
 clear hd hf ho hB hlf hdl hnf hnd hmem
 have hk1 : KF w ((w.alloc (.cells #[.int .i64 mem, .slice dao nd dc, .slice fao nf fc] 25)).alloc (.cells #[.int .i64 0, .slice none 0 0, .slice none 0 0] 25)) := ((Kept.refl _ _).alloc _).alloc _
 have hb1 : ((w.alloc (.cells #[.int .i64 mem, .slice dao nd dc, .slice fao nf fc] 25)).alloc (.cells #[.int .i64 0, .slice none 0 0, .slice none 0 0] 25)).heap[w.heap.size]? = some (.cells #[.int .i64 mem, .slice dao nd dc, .slice fao nf fc] 25 (0, 0)) := by
  rw [heap_alloc_old _ _ (by simp)]
  exact heap_alloc_new w _
 have hz1 := heap_alloc_new (w.alloc (.cells #[.int .i64 mem, .slice dao nd dc, .slice fao nf fc] 25)) (.cells #[.int .i64 0, .slice none 0 0, .slice none 0 0] 25)
 rw [show (w.alloc (.cells #[.int .i64 mem, .slice dao nd dc, .slice fao nf fc] 25)).heap.size = w.heap.size + 1 by simp] at hz1
 go_enter Tryz.func32, Tryz.ntmps32
 go_upto_region 1 with fail
 generalize (w.alloc (.cells #[.int .i64 mem, .slice dao nd dc, .slice fao nf fc] 25)).alloc (.cells #[.int .i64 0, .slice none 0 0, .slice none 0 0] 25) = w1 at *
 obtain ⟨gb, hgb⟩ := nmd (w.heap.size)
 rw [← hgb] at hb1 hz1 ⊢
 have HG1 : Hid (gb + 1 < w1.heap.size) := (Array.getElem?_eq_some_iff.1 hz1).1
 have HAP : Hid (∀ (W : World) (g8 : Nat), KF w1 W → W.heap[g8]? = some (.cells #[] 5 (0, 0)) → w1.heap.size ≤ g8 → ∃ da' dc' wn, (Builtin.append_ #[22, 22] 22 #[.slice (some ⟨g8, 0, none⟩) 0 0, .slice dao nd dc]).run Tryz.prog W = .ok (.slice da' nd dc') wn ∧ wn.ownsRow w.heap.size 5 1 (.slice da' nd dc') nd (p.data.map (Value.int .u8)) ∧ Kept (fun k => k = g8) W wn) := fun W g8 hW hE hG => by
  obtain ⟨v', wn, hr, h2, h3⟩ := app_any W (.slice (some ⟨g8, 0, none⟩) 0 0) 0 w.heap.size [] 22 (.slice dao nd dc) p.data (own_emp hE (Nat.le_trans hk1.size hG)) (HD.out.kept (hk1.trans hW) (fun _ _ f => f)) (hk1.trans hW).size (by have := HND.out; omega)
  rw [Nat.zero_add, List.nil_append, ← HND.out] at h2
  obtain ⟨da', dc', rfl⟩ := ownsRow_shape h2
  exact ⟨da', dc', wn, hr, h2, (Kept.refl (fun k => k = g8) W).grown h3 (fun k hk => .inr (by simp [Value.ownBlock] at hk; exact hk.symm))⟩
 have HST : Hid (∀ (W : World) (g3 : Nat) (da' : Option Addr) (dc' : Nat), KF w1 W → W.heap[g3]? = some (.cells #[.int .i64 0, .slice none 0 0, .slice none 0 0] 25 (0, 0)) → w1.heap.size ≤ g3 → W.ownsRow w.heap.size 5 1 (.slice da' nd dc') nd (p.data.map (Value.int .u8)) → RtK w (W.setRow g3 #[.int .i64 mem, .slice da' nd dc', .slice none 0 0]) gb g3 mem (.slice dao nd dc) (.slice fao nf fc) (.slice da' nd dc') (.slice none 0 0) p 0 []) := fun W g3 da' dc' hW h3 hG h4 => by
  have hkr := kept_row W g3 #[.int .i64 mem, .slice da' nd dc', .slice none 0 0]
  have h1 := HG1.out
  refine ⟨box_kept hkr (box_kept hW hb1 id) (by omega), box_kept hkr (box_kept hW hz1 id) (by omega), setRow_heap W g3 _ #[.int .i64 mem, .slice da' nd dc', .slice none 0 0] 25 (0, 0) h3, OwnF.nil _ _, ?_, (hk1.trans hW).step hkr (fun i hi e => by have := hk1.size; omega), ⟨hgb.symm, by omega⟩⟩
  rw [← HND.out]
  exact hkr.ownsRow h4 (fun q hq e => by subst e; exact own_box h4 h3 (by decide) hq)
 have HB1D : Hid (w1.drew.heap[gb]? = some (.cells #[.int .i64 mem, .slice dao nd dc, .slice fao nf fc] 25 (0, 0))) := hb1
 clear hk1 hb1 hz1 hgb hbd
 have hnfI : (nf : Int) ≤ 140737488351232 := by have := HLF.out; have := HNF.out; omega
 refine wp_region_held_drew (S := fun w' => w'.heap[gb]? = some (.cells #[.int .i64 mem, .slice dao nd dc, .slice fao nf fc] 25 (0, 0))) (by kernel_rfl) HB1D.out (fun hHeld => ?_)
 have hW : KF w1 w1.drew := (Kept.refl _ _).drew
 clear HB1D
 generalize w1.drew = wd at *
 refine leaf_cut5 (fun w5 g3 (g8 : Nat) da' dc' => Hid (RtK w w5 gb g3 mem (.slice dao nd dc) (.slice fao nf fc) (.slice da' nd dc') (.slice none 0 0) p 0 [])) ?M ?h (fun LEAF0 => ?k)
 case k =>
  have LEAF := hid_of LEAF0
  clear LEAF0
  have hW := hW
  refine wpAnyH_take (i := 0) (v := ?_) rfl (by kernel_rfl) (by kernel_rfl) (by kernel_rfl) (fun _ _ _ h => h) (Or.inl ⟨by rfl, ?_⟩) (by assumption) ?_
  rotate_left 1
  ·intro w hSw
   go_simp
   try with_reducible rfl
  try simp only [Act.put, List.getElem_toArray, List.getElem_cons_zero, List.getElem_cons_succ, List.setIfInBounds_toArray, List.set_cons_zero, List.set_cons_succ]
  refine wpAnyH_take (i := 1) (v := ?_) rfl (by kernel_rfl) (by kernel_rfl) (by kernel_rfl) (fun _ _ _ h => h) (Or.inl ⟨by rfl, ?_⟩) (by assumption) ?_
  rotate_left 1
  ·intro w hSw
   have q0 := cell_block _ gb 0 _ _ _ hSw
   go_simp
   try with_reducible rfl
  try simp only [Act.put, List.getElem_toArray, List.getElem_cons_zero, List.getElem_cons_succ, List.setIfInBounds_toArray, List.set_cons_zero, List.set_cons_succ]
  refine wpAnyH_take (i := 3) (v := ?_) rfl (by kernel_rfl) (by kernel_rfl) (by kernel_rfl) (fun _ _ _ h => h) (Or.inl ⟨by rfl, ?_⟩) (by assumption) ?_
  rotate_left 1
  ·intro w hSw
   go_simp
   try with_reducible rfl
  try simp only [Act.put, List.getElem_toArray, List.getElem_cons_zero, List.getElem_cons_succ, List.setIfInBounds_toArray, List.set_cons_zero, List.set_cons_succ]
  refine wpAnyH_take (i := 4) (v := ?_) rfl (by kernel_rfl) (by kernel_rfl) (by kernel_rfl) (fun _ _ _ h => h) (Or.inl ⟨by rfl, ?_⟩) (by assumption) ?_
  rotate_left 1
  ·intro w hSw
   have q1 := cell_block _ gb 1 _ _ _ hSw
   go_simp
   try with_reducible rfl
  try simp only [Act.put, List.getElem_toArray, List.getElem_cons_zero, List.getElem_cons_succ, List.setIfInBounds_toArray, List.set_cons_zero, List.set_cons_succ]
  refine wpAnyH_ready (rs := [2, 7]) (by kernel_rfl) (by simp) ?_
  refine (AllReadyH.cons rfl (fun K hK => ?_) (AllReadyH.cons rfl (fun K hK => ?_) AllReadyH.nil))
  ·go_simp
   refine hK.out _ _ (box_kept ((Kept.refl (fun _ => False) _).alloc _) hHeld id) (fun hHeld => ?_)
   clear hK K
   try simp only [Act.put, List.getElem_toArray, List.getElem_cons_zero, List.getElem_cons_succ, List.setIfInBounds_toArray, List.set_cons_zero, List.set_cons_succ]
   have hE := heap_alloc_new wd (.cells #[] 5)
   have hW2 := hW.alloc (.cells #[] 5)
   obtain ⟨g8, hg8⟩ := nmd ((wd).heap.size)
   rw [← hg8] at hE ⊢
   have hG8 : w1.heap.size ≤ g8 := by rw [hg8]; exact hW.size
   clear hW hg8
   generalize (wd).alloc (.cells #[] 5) = wa at *
   have hW := hW2
   clear hW2
   refine wpAnyH_ready (rs := [5, 7]) (by kernel_rfl) (by simp) ?_
   refine (AllReadyH.cons rfl (fun K hK => ?_) (AllReadyH.cons rfl (fun K hK => ?_) AllReadyH.nil))
   ·obtain ⟨da', dc', wb, hr, ho', hk'⟩ := HAP.out wa g8 hW hE hG8
    refine stp_app rfl (.tmp 8) (.tmp 10) 22 22 rfl _ _ rfl rfl _ _ hr ?_
    refine hK.out _ _ (box_kept hk' hHeld (by have := HG1.out; omega)) (fun hHeld => ?_)
    clear hK K hr
    try simp only [Act.put, List.getElem_toArray, List.getElem_cons_zero, List.getElem_cons_succ, List.setIfInBounds_toArray, List.set_cons_zero, List.set_cons_succ]
    have hW2 := hW.step hk' (fun i hi e => by omega)
    clear hW hE
    have hW := hW2
    clear hW2
    refine wpAnyH_take (i := 6) (v := (.agg #[.int .i64 mem, .slice da' nd dc', .slice none 0 0])) rfl (by kernel_rfl) (by kernel_rfl) (by kernel_rfl) (fun _ _ _ h => h) (Or.inl ⟨by rfl, ?_⟩) (by assumption) ?_
    ·intro w hSw
     go_simp
     try with_reducible rfl
    try simp only [Act.put, List.getElem_toArray, List.getElem_cons_zero, List.getElem_cons_succ, List.setIfInBounds_toArray, List.set_cons_zero, List.set_cons_succ]
    refine rdy 7 rfl (fun K hK => ?_)
    go_simp
    refine hK.out _ _ (box_kept ((Kept.refl (fun _ => False) _).alloc _) hHeld id) (fun hHeld => ?_)
    clear hK K
    try simp only [Act.put, List.getElem_toArray, List.getElem_cons_zero, List.getElem_cons_succ, List.setIfInBounds_toArray, List.set_cons_zero, List.set_cons_succ]
    have h3 := heap_alloc_new wb (.cells #[.int .i64 0, .slice none 0 0, .slice none 0 0] 25)
    have hW2 := hW.alloc (.cells #[.int .i64 0, .slice none 0 0, .slice none 0 0] 25)
    obtain ⟨g3, hg3⟩ := nmd ((wb).heap.size)
    rw [← hg3] at h3 ⊢
    have hG3 : w1.heap.size ≤ g3 := by rw [hg3]; exact hW.size
    have ho2 := ((Kept.refl (fun _ => False) wb).alloc (.cells #[.int .i64 0, .slice none 0 0, .slice none 0 0] 25)).ownsRow ho' (fun _ _ f => f)
    clear ho'
    have ho' := ho2
    clear ho2
    clear hW hg3
    generalize (wb).alloc (.cells #[.int .i64 0, .slice none 0 0, .slice none 0 0] 25) = wc at *
    have hW := hW2
    clear hW2
    refine rdy 8 rfl (fun K hK => ?_)
    refine stp_store_row rfl 25 _ _ rfl g3 #[.int .i64 mem, .slice da' nd dc', .slice none 0 0] rfl rfl 25 _ h3 size25p rfl (three_one _ _ _ rfl rfl rfl) ?_
    refine hK.out _ _ (box_kept (kept_row _ _ _) hHeld (by have := HG1.out; omega)) (fun hHeld => ?_)
    clear hK K
    try simp only [Act.put, List.getElem_toArray, List.getElem_cons_zero, List.getElem_cons_succ, List.setIfInBounds_toArray, List.set_cons_zero, List.set_cons_succ]
    have HT0 := hid_of (HST.out _ g3 _ _ hW h3 hG3 ho')
    clear h3 hW ho'
    refine wpAnyH_done (by kernel_rfl) ?_ _
    generalize (wc).setRow g3 #[.int .i64 mem, .slice da' nd dc', .slice none 0 0] = w5 at *
    exact LEAF.out w5 g3 g8 da' dc' HT0
   ·go_simp
    refine hK.out _ _ (box_kept ((Kept.refl (fun _ => False) _).alloc _) hHeld id) (fun hHeld => ?_)
    clear hK K
    try simp only [Act.put, List.getElem_toArray, List.getElem_cons_zero, List.getElem_cons_succ, List.setIfInBounds_toArray, List.set_cons_zero, List.set_cons_succ]
    have h3 := heap_alloc_new wa (.cells #[.int .i64 0, .slice none 0 0, .slice none 0 0] 25)
    have hW2 := hW.alloc (.cells #[.int .i64 0, .slice none 0 0, .slice none 0 0] 25)
    obtain ⟨g3, hg3⟩ := nmd ((wa).heap.size)
    rw [← hg3] at h3 ⊢
    have hG3 : w1.heap.size ≤ g3 := by rw [hg3]; exact hW.size
    have hE2 := box_kept ((Kept.refl (fun _ => False) wa).alloc (.cells #[.int .i64 0, .slice none 0 0, .slice none 0 0] 25)) hE id
    have h83 : g8 ≠ g3 := by rw [hg3]; exact Nat.ne_of_lt (Array.getElem?_eq_some_iff.1 hE).1
    clear hE
    have hE := hE2
    clear hE2
    clear hW hg3
    generalize (wa).alloc (.cells #[.int .i64 0, .slice none 0 0, .slice none 0 0] 25) = wb at *
    have hW := hW2
    clear hW2
    refine rdy 5 rfl (fun K hK => ?_)
    obtain ⟨da', dc', wc, hr, ho', hk'⟩ := HAP.out wb g8 hW hE hG8
    refine stp_app rfl (.tmp 8) (.tmp 10) 22 22 rfl _ _ rfl rfl _ _ hr ?_
    have h3' := box_kept hk' h3 (by omega)
    refine hK.out _ _ (box_kept hk' hHeld (by have := HG1.out; omega)) (fun hHeld => ?_)
    clear hK K hr
    try simp only [Act.put, List.getElem_toArray, List.getElem_cons_zero, List.getElem_cons_succ, List.setIfInBounds_toArray, List.set_cons_zero, List.set_cons_succ]
    have hW2 := hW.step hk' (fun i hi e => by omega)
    clear hW hE
    have hW := hW2
    clear hW2
    have h3 := h3'
    clear h3'
    refine wpAnyH_take (i := 6) (v := (.agg #[.int .i64 mem, .slice da' nd dc', .slice none 0 0])) rfl (by kernel_rfl) (by kernel_rfl) (by kernel_rfl) (fun _ _ _ h => h) (Or.inl ⟨by rfl, ?_⟩) (by assumption) ?_
    ·intro w hSw
     go_simp
     try with_reducible rfl
    try simp only [Act.put, List.getElem_toArray, List.getElem_cons_zero, List.getElem_cons_succ, List.setIfInBounds_toArray, List.set_cons_zero, List.set_cons_succ]
    refine rdy 8 rfl (fun K hK => ?_)
    refine stp_store_row rfl 25 _ _ rfl g3 #[.int .i64 mem, .slice da' nd dc', .slice none 0 0] rfl rfl 25 _ h3 size25p rfl (three_one _ _ _ rfl rfl rfl) ?_
    refine hK.out _ _ (box_kept (kept_row _ _ _) hHeld (by have := HG1.out; omega)) (fun hHeld => ?_)
    clear hK K
    try simp only [Act.put, List.getElem_toArray, List.getElem_cons_zero, List.getElem_cons_succ, List.setIfInBounds_toArray, List.set_cons_zero, List.set_cons_succ]
    have HT0 := hid_of (HST.out _ g3 _ _ hW h3 hG3 ho')
    clear h3 hW ho'
    refine wpAnyH_done (by kernel_rfl) ?_ _
    generalize (wc).setRow g3 #[.int .i64 mem, .slice da' nd dc', .slice none 0 0] = w5 at *
    exact LEAF.out w5 g3 g8 da' dc' HT0
  ·go_simp
   refine hK.out _ _ (box_kept ((Kept.refl (fun _ => False) _).alloc _) hHeld id) (fun hHeld => ?_)
   clear hK K
   try simp only [Act.put, List.getElem_toArray, List.getElem_cons_zero, List.getElem_cons_succ, List.setIfInBounds_toArray, List.set_cons_zero, List.set_cons_succ]
   have h3 := heap_alloc_new wd (.cells #[.int .i64 0, .slice none 0 0, .slice none 0 0] 25)
   have hW2 := hW.alloc (.cells #[.int .i64 0, .slice none 0 0, .slice none 0 0] 25)
   obtain ⟨g3, hg3⟩ := nmd ((wd).heap.size)
   rw [← hg3] at h3 ⊢
   have hG3 : w1.heap.size ≤ g3 := by rw [hg3]; exact hW.size
   clear hW hg3
   generalize (wd).alloc (.cells #[.int .i64 0, .slice none 0 0, .slice none 0 0] 25) = wa at *
   have hW := hW2
   clear hW2
   refine rdy 2 rfl (fun K hK => ?_)
   have h3a := h3
   go_simp
   refine hK.out _ _ (box_kept ((Kept.refl (fun _ => False) _).alloc _) hHeld id) (fun hHeld => ?_)
   clear hK K
   try simp only [Act.put, List.getElem_toArray, List.getElem_cons_zero, List.getElem_cons_succ, List.setIfInBounds_toArray, List.set_cons_zero, List.set_cons_succ]
   have hE := heap_alloc_new wa (.cells #[] 5)
   have hW2 := hW.alloc (.cells #[] 5)
   have h3b := box_kept ((Kept.refl (fun _ => False) wa).alloc (.cells #[] 5)) h3 id
   obtain ⟨g8, hg8⟩ := nmd (wa.heap.size)
   rw [← hg8] at hE ⊢
   have hG8 : w1.heap.size ≤ g8 := by rw [hg8]; exact hW.size
   have h83 : g8 ≠ g3 := by rw [hg8]; exact Ne.symm (Nat.ne_of_lt (Array.getElem?_eq_some_iff.1 h3).1)
   clear hW hg8 h3 h3a
   generalize wa.alloc (.cells #[] 5) = wb at *
   have hW := hW2
   have h3 := h3b
   clear hW2 h3b
   refine rdy 5 rfl (fun K hK => ?_)
   obtain ⟨da', dc', wc, hr, ho', hk'⟩ := HAP.out wb g8 hW hE hG8
   refine stp_app rfl (.tmp 8) (.tmp 10) 22 22 rfl _ _ rfl rfl _ _ hr ?_
   have h3' := box_kept hk' h3 (by omega)
   refine hK.out _ _ (box_kept hk' hHeld (by have := HG1.out; omega)) (fun hHeld => ?_)
   clear hK K hr
   try simp only [Act.put, List.getElem_toArray, List.getElem_cons_zero, List.getElem_cons_succ, List.setIfInBounds_toArray, List.set_cons_zero, List.set_cons_succ]
   have hW2 := hW.step hk' (fun i hi e => by omega)
   clear hW hE
   have hW := hW2
   clear hW2
   have h3 := h3'
   clear h3'
   refine wpAnyH_take (i := 6) (v := (.agg #[.int .i64 mem, .slice da' nd dc', .slice none 0 0])) rfl (by kernel_rfl) (by kernel_rfl) (by kernel_rfl) (fun _ _ _ h => h) (Or.inl ⟨by rfl, ?_⟩) (by assumption) ?_
   ·intro w hSw
    go_simp
    try with_reducible rfl
   try simp only [Act.put, List.getElem_toArray, List.getElem_cons_zero, List.getElem_cons_succ, List.setIfInBounds_toArray, List.set_cons_zero, List.set_cons_succ]
   refine rdy 8 rfl (fun K hK => ?_)
   refine stp_store_row rfl 25 _ _ rfl g3 #[.int .i64 mem, .slice da' nd dc', .slice none 0 0] rfl rfl 25 _ h3 size25p rfl (three_one _ _ _ rfl rfl rfl) ?_
   refine hK.out _ _ (box_kept (kept_row _ _ _) hHeld (by have := HG1.out; omega)) (fun hHeld => ?_)
   clear hK K
   try simp only [Act.put, List.getElem_toArray, List.getElem_cons_zero, List.getElem_cons_succ, List.setIfInBounds_toArray, List.set_cons_zero, List.set_cons_succ]
   have HT0 := hid_of (HST.out _ g3 _ _ hW h3 hG3 ho')
   clear h3 hW ho'
   refine wpAnyH_done (by kernel_rfl) ?_ _
   generalize (wc).setRow g3 #[.int .i64 mem, .slice da' nd dc', .slice none 0 0] = w5 at *
   exact LEAF.out w5 g3 g8 da' dc' HT0
 case h =>
  intro w5 g3 g8 da' dc' HT0
  go_wp2_with fail
  go_loopw [4] (fun i wr => ∃ (k : Nat) (fe : Option Addr) (fce : Nat) (cvs : List Value), k ≤ nf ∧ i = .int .i64 (k : Int) ∧ Hid (RtK w wr gb g3 mem (.slice dao nd dc) (.slice fao nf fc) (.slice da' nd dc') (.slice fe k fce) p k cvs)) (fun i _ => nf - (intOf i).toNat)
  case atStart => exact ⟨0, none, 0, [], by omega, rfl, HT0⟩
  case round =>
   obtain ⟨k, fe, fce, cvs, hk, rfl, HTK⟩ := hrel
   clear HT0
   have z2 := cell_block _ gb 2 _ _ _ HTK.out.box
   by_cases hlt : k < nf
   ·have hltI : (k : Int) < (nf : Int) := by omega
    have hlk : k < p.fns.length := by rw [← HNF.out]; exact hlt
    obtain ⟨gf, fo, f, rfl, hgB, hfi, cv, hrg, hri, hrb⟩ := HF.out.at hlk
    obtain ⟨cao, cc, hcs⟩ := hri.shape
    obtain ⟨nc, hnc⟩ := nmd (f.code.length)
    rw [← hnc] at hcs
    subst hcs
    have hcr : ∀ j u, (f.cells (.slice cao nc cc))[j]? = some u → wr.cell? ⟨gf, fo + k * 4 + j, none⟩ = some u := fun j u hj => HTK.out.kept.cell (hrg j u hj) id
    obtain ⟨fa, hfa1⟩ := nmd (f.a)
    obtain ⟨fl, hfl1⟩ := nmd (f.l)
    obtain ⟨fr, hfr1⟩ := nmd (f.r)
    have x0 : wr.cell? ⟨gf, fo + k * 4, none⟩ = some (.int .i64 fa) := by rw [hfa1]; exact hcr 0 _ rfl
    have x1 : wr.cell? ⟨gf, fo + k * 4 + 1, none⟩ = some (.int .i64 fl) := by rw [hfl1]; exact hcr 1 _ rfl
    have x2 : wr.cell? ⟨gf, fo + k * 4 + 2, none⟩ = some (.int .i64 fr) := by rw [hfr1]; exact hcr 2 _ rfl
    have x3 : wr.cell? ⟨gf, fo + k * 4 + 3, none⟩ = some (.slice cao nc cc) := hcr 3 _ rfl
    have hkX : KF wr (wr.alloc (.cells #[.int .i64 fa, .int .i64 fl, .int .i64 fr, .slice cao nc cc] 56)) := (Kept.refl _ _).alloc _
    have hX := heap_alloc_new wr (.cells #[.int .i64 fa, .int .i64 fl, .int .i64 fr, .slice cao nc cc] 56)
    have HRI := hid_of (hri.keptB (HTK.out.kept.trans hkX) (fun _ _ _ f => f))
    have hlc := (HO.out.fns f (List.mem_of_getElem? hfi)).len
    have HFI := hid_of hfi
    have HKX := hid_of hkX
    have HX := hid_of hX
    have HNC := hid_of hnc
    have HFA := hid_of (And.intro hfa1 (And.intro hfl1 hfr1))
    have HLC := hid_of hlc
    clear hri hrb hrg hcr hfa1 hfl1 hfr1 hnc hkX hX hfi hlc
    go_upto_region 6 with fail
    clear x0 x1 x2 x3
    generalize wr.alloc (.cells #[.int .i64 fa, .int .i64 fl, .int .i64 fr, .slice cao nc cc] 56) = w2 at *
    obtain ⟨gx, hgx⟩ := nmd (wr.heap.size)
    rw [← hgx] at HX ⊢
    have hkE : KF w2 (w2.alloc (.cells #[] 64)) := (Kept.refl _ _).alloc _
    have hE := heap_alloc_new w2 (.cells #[] 64)
    have hX3 := box_kept hkE HX.out id
    have y3 := cell_block _ gx 3 _ _ _ hX3
    have hxl := (Array.getElem?_eq_some_iff.1 HX.out).1
    obtain ⟨no, ncc, w4, hr4, ho4, hk4⟩ := app_rows (w2.alloc (.cells #[] 64)) (.slice (some ⟨w2.heap.size, 0, none⟩) 0 0) wr.heap.size [] cao cc f.code (own_emp hE HKX.out.size) (by rw [← HNC.out]; exact HRI.out.kept hkE (fun _ _ f => f)) (Nat.le_trans HKX.out.size hkE.size) (by have := HLC.out; simp only [List.length_nil, Nat.zero_add]; omega) (fun e => by
     have h9 := HRI.out
     rw [e] at h9
     rcases h9 with ⟨e9, _⟩ | ⟨g, o, c', e9, _⟩
     ·rw [e9]; rfl
     ·cases e9)
    rw [List.nil_append, ← HNC.out] at hr4 ho4
    have hX4 := box_kept hk4 hX3 (by simp [Value.ownBlock]; omega)
    have s3 := cell_block _ gx 3 _ _ _ hX4
    have sf := frozen_block _ gx 3 _ _ hX4
    have hks := kept_set w4 gx 3 (.slice no nc ncc)
    have hX5 := set_block _ gx 3 _ _ _ hX4 (.slice no nc ncc)
    have hk5 : KF wr (w4.setCell ⟨gx, 3, none⟩ (.slice no nc ncc)) := ((HKX.out.trans hkE).step hk4 (fun i hi e => by simp [Value.ownBlock] at e; have := HKX.out.size; omega)).step hks (fun i hi e => by omega)
    have ho5 := hks.ownsRow ho4 (fun q hq e => by subst e; exact own_box ho4 hX4 (by decide) hq)
    have HR4 := hid_of hr4
    obtain ⟨fv', w7, hr7, hb7, hN⟩ := HTK.out.next HFI.out hk5 (by rw [← HNC.out]; exact ho5) rfl (by have := HLF.out; omega)
    rw [← HFA.out.1, ← HFA.out.2.1, ← HFA.out.2.2] at hr7
    obtain ⟨fe', fce', hfe⟩ := ownsRow_shape hN.own.row
    rw [show (p.fns.take (k + 1)).length = k + 1 by rw [List.length_take]; omega] at hfe
    subst hfe
    have hblk5 := box_kept hk5 HTK.out.blk id
    have b2 := cell_block _ g3 2 _ _ _ hblk5
    have t2 := cell_block _ g3 2 _ _ _ hb7
    have tf := frozen_block _ g3 2 _ _ hb7
    have e0 := cell_block _ gx 0 _ _ _ hX5
    have e1 := cell_block _ gx 1 _ _ _ hX5
    have e2 := cell_block _ gx 2 _ _ _ hX5
    have e3 := cell_block _ gx 3 _ _ _ hX5
    have HR7 := hid_of hr7
    have HNX := hid_of hN
    clear hkE hE hX3 hxl hr4 ho4 hk4 hX4 hks hX5 hk5 ho5 hr7 hb7 hN hblk5 HTK HRI HKX HX hgx
    go_upto_region 7 with (at_builtin; refine wp_app rfl (.tmp 25) (.tmp 27) 54 54 rfl _ _ rfl rfl _ w4 HR4.out ?_)
    clear y3 s3 sf HR4
    generalize w4.setCell ⟨gx, 3, none⟩ (.slice no nc ncc) = w5 at *
    go_wp2_with (at_builtin; refine wp_app rfl (.tmp 31) (.tmp 33) 23 23 rfl _ _ rfl rfl _ w7 HR7.out ?_)
    go_roundw
    case rel => exact ⟨k + 1, _, _, _, by omega, by go_num, HNX⟩
    case measure => simp [intOf]; omega
   ·have hnl : ¬ ((k : Int) < (nf : Int)) := by omega
    have hkn : k = nf := by omega
    subst hkn
    have HTN : Hid (RtK w wr gb g3 mem (.slice dao nd dc) (.slice fao k fc) (.slice da' nd dc') (.slice fe k fce) p p.fns.length cvs) := by unfold Hid; have h9 := HTK.out; rw [HNF.out] at h9 ⊢; exact h9
    have y0 := cell_block _ g3 0 _ _ _ HTN.out.blk
    have y1 := cell_block _ g3 1 _ _ _ HTN.out.blk
    have y2 := cell_block _ g3 2 _ _ _ HTN.out.blk
    have hz5 := HTN.out.res
    have hkr := kept_row wr (gb + 1) #[.int .i64 mem, .slice da' nd dc', .slice fe k fce]
    have HXR := hid_of (setRow_heap wr (gb + 1) _ #[.int .i64 mem, .slice da' nd dc', .slice fe k fce] 25 (0, 0) hz5)
    have HFIN : Hid (TwinR p w (.returned (.agg #[.int .i64 mem, .slice da' nd dc', .slice fe k fce])) (wr.setRow (gb + 1) #[.int .i64 mem, .slice da' nd dc', .slice fe k fce])) := by
     have h9 := HTN.out.done hkr
     exact ⟨⟨_, _, cvs, by rw [HMEM.out], h9.1⟩, h9.2⟩
    clear hkr HTK HTN
    go_wp2_with (refine wpList_store_row rfl 25 _ _ rfl (gb + 1) #[.int .i64 mem, .slice da' nd dc', .slice fe k fce] rfl rfl 25 _ hz5 size25p rfl (three_one _ _ _ rfl rfl rfl) ?_)
    refine bodyPost_ret (v := .agg #[.int .i64 mem, .slice da' nd dc', .slice fe k fce]) ?_ rfl HFIN.out
    exact results_cell_row (by rfl) _ _ (gb + 1) 25 _ (0, 0) _ (by rfl) HXR.out Tryz.underlying25 rfl size25p
def mkF7 : List Value := [.int .i64 (-7), .int .i64 0, .int .i64 0, .slice none 0 0]
def mkC7 : List Value := [.int .i64 (-7), .int .i64 0]
theorem app_mark (t e : TypeId) {i0 : TypeInfo} {z : Value} {size bytes : Nat} (ht : Tryz.prog.underlying t = some (.slice e)) (hi : Tryz.prog.info? e = some i0) (hz0 : i0.zero = some z) (hz1 : i0.size = size) (hz2 : i0.bytes = bytes) (hzs : z.cells.size = size) (hsz : 0 < size) (W : World) (base : Nat) (v : Value) (n : Nat) (xs : List Value) (hown : W.ownsRow base e size v n xs) (ms : List Value) (hms : ms.length = size) (h1 : ∀ u ∈ ms, u.oneCell' = true) (hb : base ≤ W.heap.size) (hmx : n + 1 ≤ maxLen) (hby : (n + 1) * bytes ≤ 140737488355328) :
  ∃ g c w', (Builtin.append_ #[t, t] t #[v, .slice (some ⟨W.heap.size, 0, none⟩) 1 1]).run Tryz.prog (W.alloc (.cells ms.toArray e)) = .ok (.slice (some ⟨g, 0, none⟩) (n + 1) c) w' ∧
   w'.ownsRow base e size (.slice (some ⟨g, 0, none⟩) (n + 1) c) (n + 1) (xs ++ ms) ∧ Kept (fun k => v.ownBlock = some k) W w' ∧ (v.ownBlock = some g ∨ W.heap.size < g) := by
 obtain ⟨v', w', hr, h2, h3, h4, _⟩ := append_old (P := Tryz.prog) (W.alloc (.cells ms.toArray e)) base t t e i0 z size bytes ht hi hz0 hz1 hz2 hzs hsz v n xs (hown.alloc _) ⟨W.heap.size, 0, none⟩ 1 1 ms (by omega) (fun j u hj => by
  rw [Addr.add_lit, cell_block _ _ _ _ _ _ (heap_alloc_new W _), Nat.zero_add]
  simpa using hj) h1 hmx hby (by simp; omega)
 have hk : Kept (fun k => v.ownBlock = some k) W w' := ((Kept.refl _ W).alloc _).grown h3 (fun k hk => .inr hk)
 obtain ⟨g, c, rfl⟩ := own_at0 h2 (by omega)
 refine ⟨g, c, w', hr, h2, hk, ?_⟩
 rcases h4 with h4 | h4
 ·exact .inl h4.symm
 ·refine .inr ?_
  simp [Value.ownBlock] at h4
  omega
theorem own_cap {w : World} {base e s n : Nat} {a : Option Addr} {m c : Nat} {xs : List Value} (h : w.ownsRow base e s (.slice a m c) n xs) : m = n ∧ n ≤ c := by
 rcases h.2 with ⟨e1, h0⟩ | ⟨g, cap, cur, e1, _, hg, hn, _⟩
 ·cases e1
  exact ⟨h0.symm, by omega⟩
 ·cases e1
  exact ⟨rfl, hn⟩
theorem fcells_cv : ∀ (fs : List FN) (cvs : List Value) (i : Nat) (cv : Value), i < fs.length → cvs.length = fs.length → (fcells fs cvs).set (i * 4 + 3) cv = fcells fs (cvs.set i cv)
 | [], _, i, cv, hf, _ => by simp at hf
 | g :: fs, [], i, cv, hf, hl => by simp at hl
 | g :: fs, c :: cvs, 0, cv, hf, hl => by
  show (g.cells c ++ fcells fs cvs).set 3 _ = g.cells cv ++ fcells fs cvs
  simp [FN.cells]
 | g :: fs, c :: cvs, i + 1, cv, hf, hl => by
  have ih := fcells_cv fs cvs i cv (by simpa using hf) (by simpa using hl)
  show (g.cells c ++ fcells fs cvs).set ((i + 1) * 4 + 3) _ = g.cells c ++ fcells fs (cvs.set i cv)
  have hlc : (g.cells c).length = 4 := rfl
  rw [List.set_append_right _ _ (by rw [hlc]; omega), ← ih, hlc, show (i + 1) * 4 + 3 - 4 = i * 4 + 3 by omega]
structure RowsQ (base : Nat) (w : World) (gf fc : Nat) (fs : List FN) (cvs : List Value) (k : Nat) : Prop where
 len : cvs.length = fs.length
 row : w.ownsRow base 56 4 (.slice (some ⟨gf, 0, none⟩) (fs.length + 1) fc) (fs.length + 1) (fcells fs cvs ++ mkF7)
 mark : ∀ (i : Nat) (f : FN) (cv : Value), i < k → fs[i]? = some f → cvs[i]? = some cv → ∃ g c, cv = .slice (some ⟨g, 0, none⟩) f.code.length c ∧ w.ownsRow base 64 2 (.slice (some ⟨g, 0, none⟩) (f.code.length + 1) c) (f.code.length + 1) (icells f.code ++ mkC7)
 todo : ∀ (i : Nat) (f : FN) (cv : Value), k ≤ i → fs[i]? = some f → cvs[i]? = some cv → w.ownsRow base 64 2 cv f.code.length (icells f.code)
 apart : ∀ (i j : Nat) (c c' : Value), i ≠ j → cvs[i]? = some c → cvs[j]? = some c' → ∀ q, c.ownBlock = some q → c'.ownBlock ≠ some q
theorem RowsQ.code {base : Nat} {w : World} {gf fc : Nat} {fs : List FN} {cvs : List Value} {k : Nat} (h : RowsQ base w gf fc fs cvs k) {i : Nat} {cv : Value} (hc : cvs[i]? = some cv) : ∃ v n xs, w.ownsRow base 64 2 v n xs ∧ v.ownBlock = cv.ownBlock := by
 have hi : i < fs.length := by rw [← h.len]; exact (List.getElem?_eq_some_iff.1 hc).1
 by_cases hk : i < k
 ·obtain ⟨g, c, rfl, ho⟩ := h.mark i _ cv hk (List.getElem?_eq_getElem hi) hc
  exact ⟨_, _, _, ho, rfl⟩
 ·exact ⟨_, _, _, h.todo i _ cv (by omega) (List.getElem?_eq_getElem hi) hc, rfl⟩
theorem RowsQ.kept {S : Nat → Prop} {base : Nat} {w w' : World} {gf fc : Nat} {fs : List FN} {cvs : List Value} {k : Nat} (h : RowsQ base w gf fc fs cvs k) (hk : Kept S w w') (h1 : ¬ S gf) (h2 : ∀ c ∈ cvs, ∀ q, c.ownBlock = some q → ¬ S q) : RowsQ base w' gf fc fs cvs k := by
 refine ⟨h.len, hk.ownsRow h.row (fun q hq => by have e : gf = q := Option.some.inj hq; rw [← e]; exact h1), fun i f cv hi hf hc => ?_, fun i f cv hi hf hc => hk.ownsRow (h.todo i f cv hi hf hc) (h2 cv (List.mem_of_getElem? hc)), h.apart⟩
 obtain ⟨g, c, rfl, ho⟩ := h.mark i f cv hi hf hc
 exact ⟨g, c, rfl, hk.ownsRow ho (fun q hq => h2 _ (List.mem_of_getElem? hc) q hq)⟩
theorem OwnF.rows {base : Nat} {w : World} {gf fc : Nat} {fs : List FN} {cvs : List Value} {fv : Value} (h : OwnF base w fv fs cvs) {w' : World} (hk : Kept (fun q => fv.ownBlock = some q) w w') (hrow : w'.ownsRow base 56 4 (.slice (some ⟨gf, 0, none⟩) (fs.length + 1) fc) (fs.length + 1) (fcells fs cvs ++ mkF7)) : RowsQ base w' gf fc fs cvs 0 := by
 refine ⟨h.len, hrow, fun i f cv hi => absurd hi (by omega), fun i f cv _ hf hc => hk.ownsRow (h.at' i f cv hf hc) (fun q hq e => own_unlike (h.at' i f cv hf hc) h.row (by decide) q hq e), fun i j c c' hij hc hc' q hq hq' => ?_⟩
 rcases Nat.lt_or_gt_of_ne hij with hl | hl
 ·exact h.apart i j c c' hl hc hc' q hq hq'
 ·exact h.apart j i c' c hl hc' hc q hq' hq
structure LnQ (w wr : World) (gb g3 : Nat) (mem : Int) (dvp fvp : Value) (gd dc gf fc : Nat) (p : PG) (cvs : List Value) (k : Nat) : Prop where
 box : wr.heap[gb]? = some (.cells #[.int .i64 mem, dvp, fvp] 25 (0, 0))
 res : wr.heap[gb + 1]? = some (.cells #[.int .i64 0, .slice none 0 0, .slice none 0 0] 25 (0, 0))
 blk : wr.heap[g3]? = some (.cells #[.int .i64 mem, .slice (some ⟨gd, 0, none⟩) p.data.length dc, .slice (some ⟨gf, 0, none⟩) p.fns.length fc] 25 (0, 0))
 rows : RowsQ w.heap.size wr gf fc p.fns cvs k
 dat : wr.ownsRow w.heap.size 5 1 (.slice (some ⟨gd, 0, none⟩) (p.data.length + 1) dc) (p.data.length + 1) (p.data.map (Value.int .u8) ++ [.int .u8 169])
 kept : KF w wr
 off : w.heap.size = gb ∧ gb + 1 < g3
theorem Tryz.info64' : (Tryz.prog.info? 64).map (fun i => (i.zero, i.size, i.bytes)) = some (some (.agg #[.int .i64 0, .int .i64 0]), 2, 16) := by kernel_rfl
theorem LnQ.next {w wr W : World} {gb g3 : Nat} {mem : Int} {dvp fvp cv : Value} {gd dc gf fc : Nat} {p : PG} {cvs : List Value} {k : Nat} {f : FN} (h : LnQ w wr gb g3 mem dvp fvp gd dc gf fc p cvs k) (hf : p.fns[k]? = some f) (hc : cvs[k]? = some cv) (hk : KF wr W) (hsz : (f.code.length + 1) * 16 ≤ 140737488355328) :
  ∃ g c w7, (Builtin.append_ #[54, 54] 54 #[cv, .slice (some ⟨W.heap.size, 0, none⟩) 1 1]).run Tryz.prog (W.alloc (.cells #[.int .i64 (-7), .int .i64 0] 64)) = .ok (.slice (some ⟨g, 0, none⟩) (f.code.length + 1) c) w7 ∧ f.code.length + 1 ≤ c ∧
   Kept (fun q => cv.ownBlock = some q) W w7 ∧ w7.cell? ⟨gf, k * 4 + 3, none⟩ = some cv ∧ w7.frozen? ⟨gf, k * 4 + 3, none⟩ = false ∧
   LnQ w (w7.setCell ⟨gf, k * 4 + 3, none⟩ (.slice (some ⟨g, 0, none⟩) f.code.length c)) gb g3 mem dvp fvp gd dc gf fc p (cvs.set k (.slice (some ⟨g, 0, none⟩) f.code.length c)) (k + 1) := by
 have hkl : k < p.fns.length := (List.getElem?_eq_some_iff.1 hf).1
 have hcl : k < cvs.length := (List.getElem?_eq_some_iff.1 hc).1
 have hbW : w.heap.size ≤ W.heap.size := Nat.le_trans h.kept.size hk.size
 have hR := h.rows.kept hk id (fun _ _ _ _ f => f)
 have boxW := box_kept hk h.box id
 have resW := box_kept hk h.res id
 have blkW := box_kept hk h.blk id
 have datW := hk.ownsRow h.dat (fun _ _ f => f)
 have ho := hR.todo k f cv (Nat.le_refl _) hf hc
 obtain ⟨i0, hi, hz0, hz1, hz2⟩ := info_parts Tryz.info64'
 obtain ⟨g, c, w7, hr, hO, hka, hg⟩ := app_mark 54 64 Tryz.underlying54 hi hz0 hz1 hz2 rfl (by decide) W w.heap.size cv f.code.length (icells f.code) ho mkC7 rfl (by simp [mkC7]; exact ⟨rfl, rfl⟩) hbW (by unfold maxLen; omega) hsz
 have box7 := box_kept hka boxW (own_box ho boxW (by decide))
 have res7 := box_kept hka resW (own_box ho resW (by decide))
 have blk7 := box_kept hka blkW (own_box ho blkW (by decide))
 have dat7 := hka.ownsRow datW (fun q hq e => own_unlike datW ho (by decide) q hq e)
 have row7 := hka.ownsRow hR.row (fun q hq e => own_unlike hR.row ho (by decide) q hq e)
 have hks := kept_set w7 gf (k * 4 + 3) (.slice (some ⟨g, 0, none⟩) f.code.length c)
 have hcell : w7.cell? ⟨gf, k * 4 + 3, none⟩ = some cv := by
  rw [row7.cellAt _ (by omega), List.getElem?_append_left (by rw [fcells_len _ _ hR.len]; omega), fcells_at _ _ _ _ _ hf hc 3 (by omega)]
  rfl
 have hoff := h.off
 have hgf := (row7.lt gf rfl).1
 refine ⟨g, c, w7, hr, (own_cap hO).2, hka, hcell, World.ownsRow.frozenAt row7 _, ⟨box_kept hks box7 (fun e => own_box row7 box7 (by decide) (by rw [e]; rfl)), box_kept hks res7 (fun e => own_box row7 res7 (by decide) (by rw [e]; rfl)), box_kept hks blk7 (fun e => own_box row7 blk7 (by decide) (by rw [e]; rfl)), ?_, hks.ownsRow dat7 (fun q hq e => own_unlike dat7 row7 (by decide) q hq (by rw [e]; rfl)), ((h.kept.trans hk).step hka (fun i hi e => by have := (ho.lt i e).1; omega)).step hks (fun i hi e => by omega), hoff⟩⟩
 have hst := (World.ownsRow.stored row7 (k * 4 + 3) (.slice (some ⟨g, 0, none⟩) f.code.length c)).1
 rw [List.set_append_left _ _ (by rw [fcells_len _ _ hR.len]; omega), fcells_cv _ _ _ _ hkl hR.len] at hst
 have hcode : ∀ {u : Value} {n : Nat} {xs : List Value}, w7.ownsRow w.heap.size 64 2 u n xs → (w7.setCell ⟨gf, k * 4 + 3, none⟩ (.slice (some ⟨g, 0, none⟩) f.code.length c)).ownsRow w.heap.size 64 2 u n xs := fun hu => hks.ownsRow hu (fun q hq e => own_unlike hu row7 (by decide) q hq (by rw [e]; rfl))
 refine ⟨by rw [List.length_set]; exact hR.len, hst, fun i F u hi hF hu => ?_, fun i F u hi hF hu => ?_, fun i j u u' hij hu hu' q hq hq' => ?_⟩
 ·rw [List.getElem?_set] at hu
  by_cases e : k = i
  ·subst e
   rw [if_pos rfl, if_pos hcl] at hu
   cases hu
   rw [hf] at hF
   cases hF
   exact ⟨g, c, rfl, hcode hO⟩
  ·rw [if_neg e] at hu
   obtain ⟨g1, c1, rfl, h1⟩ := hR.mark i F u (by omega) hF hu
   exact ⟨g1, c1, rfl, hcode (hka.ownsRow h1 (fun q hq e1 => hR.apart i k _ _ (fun e2 => e e2.symm) hu hc q hq e1))⟩
 ·rw [List.getElem?_set, if_neg (by omega)] at hu
  have h1 := hR.todo i F u (by omega) hF hu
  exact hcode (hka.ownsRow h1 (fun q hq e1 => hR.apart i k _ _ (by omega) hu hc q hq e1))
 ·have hold : ∀ {i : Nat} {u : Value}, cvs[i]? = some u → i ≠ k → u.ownBlock ≠ some g := fun hu hik e => by
   rcases hg with hg | hg
   ·exact hR.apart _ k _ _ hik hu hc g e hg
   ·obtain ⟨v1, n1, xs1, h1, e1⟩ := hR.code hu
    have := (h1.lt g (by rw [e1]; exact e)).2
    omega
  rw [List.getElem?_set] at hu hu'
  by_cases e1 : k = i
  ·subst e1
   rw [if_pos rfl, if_pos hcl] at hu
   cases hu
   rw [if_neg hij] at hu'
   have e : g = q := Option.some.inj hq
   subst e
   exact hold hu' (fun e => hij e.symm) hq'
  ·rw [if_neg e1] at hu
   by_cases e2 : k = j
   ·subst e2
    rw [if_pos rfl, if_pos hcl] at hu'
    cases hu'
    have e : g = q := Option.some.inj hq'
    subst e
    exact hold hu hij hq
   ·rw [if_neg e2] at hu'
    exact hR.apart i j _ _ hij hu hu' q hq hq'
structure LentQ (base : Nat) (w : World) (gd dc gf fc : Nat) (p : PG) (cvs : List Value) : Prop where
 rows : RowsQ base w gf fc p.fns cvs p.fns.length
 dat : w.ownsRow base 5 1 (.slice (some ⟨gd, 0, none⟩) (p.data.length + 1) dc) (p.data.length + 1) (p.data.map (Value.int .u8) ++ [.int .u8 169])
def LBlk (gd gf : Nat) (cvs : List Value) (q : Nat) : Prop := q = gd ∨ q = gf ∨ ∃ c ∈ cvs, c.ownBlock = some q
theorem LentQ.kept {S : Nat → Prop} {base : Nat} {w w' : World} {gd dc gf fc : Nat} {p : PG} {cvs : List Value} (h : LentQ base w gd dc gf fc p cvs) (hk : Kept S w w') (hS : ∀ q, LBlk gd gf cvs q → ¬ S q) : LentQ base w' gd dc gf fc p cvs :=
 ⟨h.rows.kept hk (hS gf (.inr (.inl rfl))) (fun c hc q hq => hS q (.inr (.inr ⟨c, hc, hq⟩))), hk.ownsRow h.dat (fun q hq => hS q (.inl (Option.some.inj hq).symm))⟩
theorem LentQ.blk {base : Nat} {w : World} {gd dc gf fc : Nat} {p : PG} {cvs : List Value} (h : LentQ base w gd dc gf fc p cvs) {q : Nat} (hq : LBlk gd gf cvs q) : base ≤ q ∧ q < w.heap.size := by
 rcases hq with rfl | rfl | ⟨c, hc, hq⟩
 ·exact h.dat.lt _ rfl
 ·exact h.rows.row.lt _ rfl
 ·obtain ⟨i, hi, e⟩ := List.mem_iff_getElem.1 hc
  obtain ⟨v, n, xs, h1, h2⟩ := h.rows.code (i := i) (by rw [List.getElem?_eq_getElem hi, e])
  exact h1.lt q (by rw [h2]; exact hq)
def lentQ (p : PG) (gd dc gf fc : Nat) : Value := .agg #[.int .i64 p.mem, .slice (some ⟨gd, 0, none⟩) p.data.length dc, .slice (some ⟨gf, 0, none⟩) p.fns.length fc]
theorem isB_cut {w : World} {base g c : Nat} {xs : List Int} {m : Value} (h : w.ownsRow base 5 1 (.slice (some ⟨g, 0, none⟩) (xs.length + 1) c) (xs.length + 1) (xs.map (Value.int .u8) ++ [m])) : IsB w (.slice (some ⟨g, 0, none⟩) xs.length c) xs := by
 refine .inr ⟨g, 0, c, rfl, fun i hi => ?_⟩
 rw [Nat.zero_add, h.cellAt _ (by omega), List.getElem?_append_left (by simpa using hi), List.getElem?_map, List.getElem?_eq_getElem hi, List.getD_eq_getElem?_getD, List.getElem?_eq_getElem hi]
 rfl
theorem LentQ.pg {base : Nat} {w : World} {gd dc gf fc : Nat} {p : PG} {cvs : List Value} (h : LentQ base w gd dc gf fc p cvs) : PgIs w w.heap.size (lentQ p gd dc gf fc) p := by
 refine ⟨_, _, rfl, ?_, fun q hq => ?_, .inr ⟨gf, 0, fc, rfl, (h.rows.row.lt gf rfl).2, fun i f hf => ?_⟩⟩
 ·refine isB_cut h.dat
 ·have e : gd = q := Option.some.inj hq
  rw [← e]
  exact (h.dat.lt gd rfl).2
 ·have hi : i < p.fns.length := (List.getElem?_eq_some_iff.1 hf).1
  obtain ⟨cv, hcv⟩ : ∃ cv, cvs[i]? = some cv := ⟨_, List.getElem?_eq_getElem (by rw [h.rows.len]; exact hi)⟩
  obtain ⟨g, c, rfl, ho⟩ := h.rows.mark i f cv hi hf hcv
  refine ⟨_, fun j u hj => ?_, .inr ⟨g, 0, c, rfl, fun k y hy j u hj => ?_⟩, fun q hq _ => ?_⟩
  ·have hj4 : j < 4 := by
    have := (List.getElem?_eq_some_iff.1 hj).1
    simpa [FN.cells] using this
   have h1 := fcells_at p.fns cvs i f _ hf hcv j hj4
   rw [hj] at h1
   rw [show 0 + i * 4 + j = i * 4 + j by omega, h.rows.row.cellAt _ (by omega), List.getElem?_append_left (by rw [fcells_len _ _ h.rows.len]; omega), h1]
  ·have hj2 : j < 2 := by
    have := (List.getElem?_eq_some_iff.1 hj).1
    simpa [IN.cells] using this
   have hkl : k < f.code.length := (List.getElem?_eq_some_iff.1 hy).1
   have h1 := icells_at f.code k y hy j hj2
   rw [hj] at h1
   rw [show 0 + k * 2 + j = k * 2 + j by omega, ho.cellAt _ (by omega), List.getElem?_append_left (by rw [icells_length]; omega), h1]
  ·have e : g = q := Option.some.inj hq
   rw [← e]
   exact (ho.lt g rfl).2
def LendQ (p : PG) (w : World) (e : Ending) (w' : World) : Prop := KF w w' ∧ ∃ gd dc gf fc cvs, e = .returned (lentQ p gd dc gf fc) ∧ LentQ w.heap.size w' gd dc gf fc p cvs
end Go.Proofs.YtcaadgcfceommaaGreat

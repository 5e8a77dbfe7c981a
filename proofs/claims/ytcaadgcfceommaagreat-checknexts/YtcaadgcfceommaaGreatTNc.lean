/-
  TNc: Nc.
-/
import Derived.Test.YtcaadgcfceommaaGreatTNb
import Derived.Test.YtcaadgcfceommaaGreatTKa
namespace Go.Proofs.YtcaadgcfceommaaGreat
open Go.ChangeShapes Go.WideShapes Go.ChangeAt Go.RowKit Go.Deep
set_option linter.unusedVariables false
set_option linter.unusedSimpArgs false
set_option maxRecDepth 100000

/-- The marks behind lent functions and lent code. -/
def mkF7 : List Value := [.int .i64 (-7), .int .i64 0, .int .i64 0, .slice none 0 0]
def mkC7 : List Value := [.int .i64 (-7), .int .i64 0]
/-- One more element, out of a new row of one. -/
theorem app_mark (t e : TypeId) {i0 : TypeInfo} {z : Value} {size bytes : Nat} (ht : Tryz.prog.underlying t = some (.slice e)) (hi : Tryz.prog.info? e = some i0) (hz0 : i0.zero = some z) (hz1 : i0.size = size) (hz2 : i0.bytes = bytes) (hzs : z.cells.size = size) (hsz : 0 < size) (W : World) (base : Nat) (v : Value) (n : Nat) (xs : List Value) (hown : W.ownsRow base e size v n xs) (ms : List Value) (hms : ms.length = size) (h1 : ∀ u ∈ ms, u.oneCell' = true) (hb : base ≤ W.heap.size) (hmx : n + 1 ≤ maxLen) (hby : (n + 1) * bytes ≤ 140737488355328) :
    ∃ g c w', (Builtin.append_ #[t, t] t #[v, .slice (some ⟨W.heap.size, 0, none⟩) 1 1]).run Tryz.prog (W.alloc (.cells ms.toArray e)) = .ok (.slice (some ⟨g, 0, none⟩) (n + 1) c) w' ∧
      w'.ownsRow base e size (.slice (some ⟨g, 0, none⟩) (n + 1) c) (n + 1) (xs ++ ms) ∧ Kept (fun k => v.ownBlock = some k) W w' ∧ (v.ownBlock = some g ∨ W.heap.size < g) := by
  obtain ⟨v', w', hr, h2, h3, h4, _⟩ := append_old (P := Tryz.prog) (W.alloc (.cells ms.toArray e)) base t t e i0 z size bytes ht hi hz0 hz1 hz2 hzs hsz v n xs (hown.alloc _) ⟨W.heap.size, 0, none⟩ 1 1 ms (by omega) (fun j u hj => by
    rw [Addr.add_lit, cell_block _ _ _ _ _ _ (heap_alloc_new W _), Nat.zero_add]
    simpa using hj) h1 hmx hby (by simp; omega)
  have hk : Kept (fun k => v.ownBlock = some k) W w' := ((Kept.refl _ W).alloc _).grown h3 (fun k hk => .inr hk)
  obtain ⟨g, c, rfl⟩ := own_at0 h2 (by omega)
  refine ⟨g, c, w', hr, h2, hk, ?_⟩
  rcases h4 with h4 | h4
  · exact .inl h4.symm
  · refine .inr ?_
    simp [Value.ownBlock] at h4
    omega
theorem own_cap {w : World} {base e s n : Nat} {a : Option Addr} {m c : Nat} {xs : List Value} (h : w.ownsRow base e s (.slice a m c) n xs) : m = n ∧ n ≤ c := by
  rcases h.2 with ⟨e1, h0⟩ | ⟨g, cap, cur, e1, _, hg, hn, _⟩
  · cases e1
    exact ⟨h0.symm, by omega⟩
  · cases e1
    exact ⟨rfl, hn⟩
theorem fcells_cv : ∀ (fs : List FN) (cvs : List Value) (i : Nat) (cv : Value), i < fs.length → cvs.length = fs.length → (fcells fs cvs).set (i * 4 + 3) cv = fcells fs (cvs.set i cv)
  | [], _, i, cv, hf, _ => by simp at hf
  | g :: fs, [], i, cv, hf, hl => by simp at hl
  | g :: fs, c :: cvs, 0, cv, hf, hl => by
    show (g.cells c ++ fcells fs cvs).set 3 _ = g.cells cv ++ fcells fs cvs
    simp [FN.cells]
  | g :: fs, c :: cvs, i + 1, cv, hf, hl => by
    have ih := fcells_cv fs cvs i cv (by simpa using hf) (by simpa using hl)
    show (g.cells c ++ fcells fs cvs).set ((i + 1) * 4 + 3) _ = g.cells c ++ fcells fs (cvs.set i cv)
    have hlc : (g.cells c).length = 4 := rfl
    rw [List.set_append_right _ _ (by rw [hlc]; omega), ← ih, hlc, show (i + 1) * 4 + 3 - 4 = i * 4 + 3 by omega]
/-- Functions in a row with a mark behind them; the first k codes have one too. -/
structure RowsQ (base : Nat) (w : World) (gf fc : Nat) (fs : List FN) (cvs : List Value) (k : Nat) : Prop where
  len : cvs.length = fs.length
  row : w.ownsRow base 56 4 (.slice (some ⟨gf, 0, none⟩) (fs.length + 1) fc) (fs.length + 1) (fcells fs cvs ++ mkF7)
  mark : ∀ (i : Nat) (f : FN) (cv : Value), i < k → fs[i]? = some f → cvs[i]? = some cv → ∃ g c, cv = .slice (some ⟨g, 0, none⟩) f.code.length c ∧ w.ownsRow base 64 2 (.slice (some ⟨g, 0, none⟩) (f.code.length + 1) c) (f.code.length + 1) (icells f.code ++ mkC7)
  todo : ∀ (i : Nat) (f : FN) (cv : Value), k ≤ i → fs[i]? = some f → cvs[i]? = some cv → w.ownsRow base 64 2 cv f.code.length (icells f.code)
  apart : ∀ (i j : Nat) (c c' : Value), i ≠ j → cvs[i]? = some c → cvs[j]? = some c' → ∀ q, c.ownBlock = some q → c'.ownBlock ≠ some q
/-- What a code's row leaves. -/
theorem RowsQ.code {base : Nat} {w : World} {gf fc : Nat} {fs : List FN} {cvs : List Value} {k : Nat} (h : RowsQ base w gf fc fs cvs k) {i : Nat} {cv : Value} (hc : cvs[i]? = some cv) : ∃ v n xs, w.ownsRow base 64 2 v n xs ∧ v.ownBlock = cv.ownBlock := by
  have hi : i < fs.length := by rw [← h.len]; exact (List.getElem?_eq_some_iff.1 hc).1
  by_cases hk : i < k
  · obtain ⟨g, c, rfl, ho⟩ := h.mark i _ cv hk (List.getElem?_eq_getElem hi) hc
    exact ⟨_, _, _, ho, rfl⟩
  · exact ⟨_, _, _, h.todo i _ cv (by omega) (List.getElem?_eq_getElem hi) hc, rfl⟩
theorem RowsQ.kept {S : Nat → Prop} {base : Nat} {w w' : World} {gf fc : Nat} {fs : List FN} {cvs : List Value} {k : Nat} (h : RowsQ base w gf fc fs cvs k) (hk : Kept S w w') (h1 : ¬ S gf) (h2 : ∀ c ∈ cvs, ∀ q, c.ownBlock = some q → ¬ S q) : RowsQ base w' gf fc fs cvs k := by
  refine ⟨h.len, hk.ownsRow h.row (fun q hq => by have e : gf = q := Option.some.inj hq; rw [← e]; exact h1), fun i f cv hi hf hc => ?_, fun i f cv hi hf hc => hk.ownsRow (h.todo i f cv hi hf hc) (h2 cv (List.mem_of_getElem? hc)), h.apart⟩
  obtain ⟨g, c, rfl, ho⟩ := h.mark i f cv hi hf hc
  exact ⟨g, c, rfl, hk.ownsRow ho (fun q hq => h2 _ (List.mem_of_getElem? hc) q hq)⟩
theorem OwnF.rows {base : Nat} {w : World} {gf fc : Nat} {fs : List FN} {cvs : List Value} {fv : Value} (h : OwnF base w fv fs cvs) {w' : World} (hk : Kept (fun q => fv.ownBlock = some q) w w') (hrow : w'.ownsRow base 56 4 (.slice (some ⟨gf, 0, none⟩) (fs.length + 1) fc) (fs.length + 1) (fcells fs cvs ++ mkF7)) : RowsQ base w' gf fc fs cvs 0 := by
  refine ⟨h.len, hrow, fun i f cv hi => absurd hi (by omega), fun i f cv _ hf hc => hk.ownsRow (h.at' i f cv hf hc) (fun q hq e => own_unlike (h.at' i f cv hf hc) h.row (by decide) q hq e), fun i j c c' hij hc hc' q hq hq' => ?_⟩
  rcases Nat.lt_or_gt_of_ne hij with hl | hl
  · exact h.apart i j c c' hl hc hc' q hq hq'
  · exact h.apart j i c' c hl hc' hc q hq' hq
/-- What holds while Lend marks. -/
structure LnQ (w wr : World) (gb g3 : Nat) (mem : Int) (dvp fvp : Value) (gd dc gf fc : Nat) (p : PG) (cvs : List Value) (k : Nat) : Prop where
  box : wr.heap[gb]? = some (.cells #[.int .i64 mem, dvp, fvp] 25 (0, 0))
  res : wr.heap[gb + 1]? = some (.cells #[.int .i64 0, .slice none 0 0, .slice none 0 0] 25 (0, 0))
  blk : wr.heap[g3]? = some (.cells #[.int .i64 mem, .slice (some ⟨gd, 0, none⟩) p.data.length dc, .slice (some ⟨gf, 0, none⟩) p.fns.length fc] 25 (0, 0))
  rows : RowsQ w.heap.size wr gf fc p.fns cvs k
  dat : wr.ownsRow w.heap.size 5 1 (.slice (some ⟨gd, 0, none⟩) (p.data.length + 1) dc) (p.data.length + 1) (p.data.map (Value.int .u8) ++ [.int .u8 169])
  kept : Kept (fun _ => False) w wr
  off : w.heap.size = gb ∧ gb + 1 < g3
theorem Tryz.info64' : (Tryz.prog.info? 64).map (fun i => (i.zero, i.size, i.bytes)) = some (some (.agg #[.int .i64 0, .int .i64 0]), 2, 16) := by kernel_rfl
theorem LnQ.next {w wr W : World} {gb g3 : Nat} {mem : Int} {dvp fvp cv : Value} {gd dc gf fc : Nat} {p : PG} {cvs : List Value} {k : Nat} {f : FN} (h : LnQ w wr gb g3 mem dvp fvp gd dc gf fc p cvs k) (hf : p.fns[k]? = some f) (hc : cvs[k]? = some cv) (hk : Kept (fun _ => False) wr W) (hsz : (f.code.length + 1) * 16 ≤ 140737488355328) :
    ∃ g c w7, (Builtin.append_ #[54, 54] 54 #[cv, .slice (some ⟨W.heap.size, 0, none⟩) 1 1]).run Tryz.prog (W.alloc (.cells #[.int .i64 (-7), .int .i64 0] 64)) = .ok (.slice (some ⟨g, 0, none⟩) (f.code.length + 1) c) w7 ∧ f.code.length + 1 ≤ c ∧
      Kept (fun q => cv.ownBlock = some q) W w7 ∧ w7.cell? ⟨gf, k * 4 + 3, none⟩ = some cv ∧ w7.frozen? ⟨gf, k * 4 + 3, none⟩ = false ∧
      LnQ w (w7.setCell ⟨gf, k * 4 + 3, none⟩ (.slice (some ⟨g, 0, none⟩) f.code.length c)) gb g3 mem dvp fvp gd dc gf fc p (cvs.set k (.slice (some ⟨g, 0, none⟩) f.code.length c)) (k + 1) := by
  have hkl : k < p.fns.length := (List.getElem?_eq_some_iff.1 hf).1
  have hcl : k < cvs.length := (List.getElem?_eq_some_iff.1 hc).1
  have hbW : w.heap.size ≤ W.heap.size := Nat.le_trans h.kept.size hk.size
  have hR := h.rows.kept hk (fun f => f) (fun _ _ _ _ f => f)
  have boxW := box_kept hk h.box (fun f => f)
  have resW := box_kept hk h.res (fun f => f)
  have blkW := box_kept hk h.blk (fun f => f)
  have datW := hk.ownsRow h.dat (fun _ _ f => f)
  have ho := hR.todo k f cv (Nat.le_refl _) hf hc
  obtain ⟨i0, hi, hz0, hz1, hz2⟩ := info_parts Tryz.info64'
  obtain ⟨g, c, w7, hr, hO, hka, hg⟩ := app_mark 54 64 Tryz.underlying54 hi hz0 hz1 hz2 rfl (by decide) W w.heap.size cv f.code.length (icells f.code) ho mkC7 rfl (by simp [mkC7]; exact ⟨rfl, rfl⟩) hbW (by unfold maxLen; omega) hsz
  have box7 := box_kept hka boxW (own_box ho boxW (by decide))
  have res7 := box_kept hka resW (own_box ho resW (by decide))
  have blk7 := box_kept hka blkW (own_box ho blkW (by decide))
  have dat7 := hka.ownsRow datW (fun q hq e => own_unlike datW ho (by decide) q hq e)
  have row7 := hka.ownsRow hR.row (fun q hq e => own_unlike hR.row ho (by decide) q hq e)
  have hks := kept_set w7 gf (k * 4 + 3) (.slice (some ⟨g, 0, none⟩) f.code.length c)
  have hcell : w7.cell? ⟨gf, k * 4 + 3, none⟩ = some cv := by
    rw [row7.cellAt _ (by omega), List.getElem?_append_left (by rw [fcells_len _ _ hR.len]; omega), fcells_at _ _ _ _ _ hf hc 3 (by omega)]
    rfl
  have hoff := h.off
  have hgf := (row7.lt gf rfl).1
  refine ⟨g, c, w7, hr, (own_cap hO).2, hka, hcell, World.ownsRow.frozenAt row7 _, ⟨box_kept hks box7 (fun e => own_box row7 box7 (by decide) (by rw [e]; rfl)), box_kept hks res7 (fun e => own_box row7 res7 (by decide) (by rw [e]; rfl)), box_kept hks blk7 (fun e => own_box row7 blk7 (by decide) (by rw [e]; rfl)), ?_, hks.ownsRow dat7 (fun q hq e => own_unlike dat7 row7 (by decide) q hq (by rw [e]; rfl)), ((h.kept.trans hk).step hka (fun i hi e => by have := (ho.lt i e).1; omega)).step hks (fun i hi e => by omega), hoff⟩⟩
  have hst := (World.ownsRow.stored row7 (k * 4 + 3) (.slice (some ⟨g, 0, none⟩) f.code.length c)).1
  rw [List.set_append_left _ _ (by rw [fcells_len _ _ hR.len]; omega), fcells_cv _ _ _ _ hkl hR.len] at hst
  have hcode : ∀ {u : Value} {n : Nat} {xs : List Value}, w7.ownsRow w.heap.size 64 2 u n xs → (w7.setCell ⟨gf, k * 4 + 3, none⟩ (.slice (some ⟨g, 0, none⟩) f.code.length c)).ownsRow w.heap.size 64 2 u n xs := fun hu => hks.ownsRow hu (fun q hq e => own_unlike hu row7 (by decide) q hq (by rw [e]; rfl))
  refine ⟨by rw [List.length_set]; exact hR.len, hst, fun i F u hi hF hu => ?_, fun i F u hi hF hu => ?_, fun i j u u' hij hu hu' q hq hq' => ?_⟩
  · rw [List.getElem?_set] at hu
    by_cases e : k = i
    · subst e
      rw [if_pos rfl, if_pos hcl] at hu
      cases hu
      rw [hf] at hF
      cases hF
      exact ⟨g, c, rfl, hcode hO⟩
    · rw [if_neg e] at hu
      obtain ⟨g1, c1, rfl, h1⟩ := hR.mark i F u (by omega) hF hu
      exact ⟨g1, c1, rfl, hcode (hka.ownsRow h1 (fun q hq e1 => hR.apart i k _ _ (fun e2 => e e2.symm) hu hc q hq e1))⟩
  · rw [List.getElem?_set, if_neg (by omega)] at hu
    have h1 := hR.todo i F u (by omega) hF hu
    exact hcode (hka.ownsRow h1 (fun q hq e1 => hR.apart i k _ _ (by omega) hu hc q hq e1))
  · have hold : ∀ {i : Nat} {u : Value}, cvs[i]? = some u → i ≠ k → u.ownBlock ≠ some g := fun hu hik e => by
      rcases hg with hg | hg
      · exact hR.apart _ k _ _ hik hu hc g e hg
      · obtain ⟨v1, n1, xs1, h1, e1⟩ := hR.code hu
        have := (h1.lt g (by rw [e1]; exact e)).2
        omega
    rw [List.getElem?_set] at hu hu'
    by_cases e1 : k = i
    · subst e1
      rw [if_pos rfl, if_pos hcl] at hu
      cases hu
      rw [if_neg hij] at hu'
      have e : g = q := Option.some.inj hq
      subst e
      exact hold hu' (fun e => hij e.symm) hq'
    · rw [if_neg e1] at hu
      by_cases e2 : k = j
      · subst e2
        rw [if_pos rfl, if_pos hcl] at hu'
        cases hu'
        have e : g = q := Option.some.inj hq'
        subst e
        exact hold hu hij hq
      · rw [if_neg e2] at hu'
        exact hR.apart i j _ _ hij hu hu' q hq hq'
/-- A lent program in memory. -/
structure LentQ (base : Nat) (w : World) (gd dc gf fc : Nat) (p : PG) (cvs : List Value) : Prop where
  rows : RowsQ base w gf fc p.fns cvs p.fns.length
  dat : w.ownsRow base 5 1 (.slice (some ⟨gd, 0, none⟩) (p.data.length + 1) dc) (p.data.length + 1) (p.data.map (Value.int .u8) ++ [.int .u8 169])
/-- Its blocks. -/
def LBlk (gd gf : Nat) (cvs : List Value) (q : Nat) : Prop := q = gd ∨ q = gf ∨ ∃ c ∈ cvs, c.ownBlock = some q
theorem LentQ.kept {S : Nat → Prop} {base : Nat} {w w' : World} {gd dc gf fc : Nat} {p : PG} {cvs : List Value} (h : LentQ base w gd dc gf fc p cvs) (hk : Kept S w w') (hS : ∀ q, LBlk gd gf cvs q → ¬ S q) : LentQ base w' gd dc gf fc p cvs :=
  ⟨h.rows.kept hk (hS gf (.inr (.inl rfl))) (fun c hc q hq => hS q (.inr (.inr ⟨c, hc, hq⟩))), hk.ownsRow h.dat (fun q hq => hS q (.inl (Option.some.inj hq).symm))⟩
theorem LentQ.blk {base : Nat} {w : World} {gd dc gf fc : Nat} {p : PG} {cvs : List Value} (h : LentQ base w gd dc gf fc p cvs) {q : Nat} (hq : LBlk gd gf cvs q) : base ≤ q ∧ q < w.heap.size := by
  rcases hq with rfl | rfl | ⟨c, hc, hq⟩
  · exact h.dat.lt _ rfl
  · exact h.rows.row.lt _ rfl
  · obtain ⟨i, hi, e⟩ := List.mem_iff_getElem.1 hc
    obtain ⟨v, n, xs, h1, h2⟩ := h.rows.code (i := i) (by rw [List.getElem?_eq_getElem hi, e])
    exact h1.lt q (by rw [h2]; exact hq)
/-- As a value. -/
def lentQ (p : PG) (gd dc gf fc : Nat) : Value := .agg #[.int .i64 p.mem, .slice (some ⟨gd, 0, none⟩) p.data.length dc, .slice (some ⟨gf, 0, none⟩) p.fns.length fc]
theorem isB_cut {w : World} {base g c : Nat} {xs : List Int} {m : Value} (h : w.ownsRow base 5 1 (.slice (some ⟨g, 0, none⟩) (xs.length + 1) c) (xs.length + 1) (xs.map (Value.int .u8) ++ [m])) : IsB w (.slice (some ⟨g, 0, none⟩) xs.length c) xs := by
  refine .inr ⟨g, 0, c, rfl, fun i hi => ?_⟩
  rw [Nat.zero_add, h.cellAt _ (by omega), List.getElem?_append_left (by simpa using hi), List.getElem?_map, List.getElem?_eq_getElem hi, List.getD_eq_getElem?_getD, List.getElem?_eq_getElem hi]
  rfl
theorem LentQ.pg {base : Nat} {w : World} {gd dc gf fc : Nat} {p : PG} {cvs : List Value} (h : LentQ base w gd dc gf fc p cvs) : PgIs w w.heap.size (lentQ p gd dc gf fc) p := by
  refine ⟨_, _, rfl, ?_, fun q hq => ?_, .inr ⟨gf, 0, fc, rfl, (h.rows.row.lt gf rfl).2, fun i f hf => ?_⟩⟩
  · refine isB_cut h.dat
  · have e : gd = q := Option.some.inj hq
    rw [← e]
    exact (h.dat.lt gd rfl).2
  · have hi : i < p.fns.length := (List.getElem?_eq_some_iff.1 hf).1
    obtain ⟨cv, hcv⟩ : ∃ cv, cvs[i]? = some cv := ⟨_, List.getElem?_eq_getElem (by rw [h.rows.len]; exact hi)⟩
    obtain ⟨g, c, rfl, ho⟩ := h.rows.mark i f cv hi hf hcv
    refine ⟨_, fun j u hj => ?_, .inr ⟨g, 0, c, rfl, fun k y hy j u hj => ?_⟩, fun q hq _ => ?_⟩
    · have hj4 : j < 4 := by
        have := (List.getElem?_eq_some_iff.1 hj).1
        simpa [FN.cells] using this
      have h1 := fcells_at p.fns cvs i f _ hf hcv j hj4
      rw [hj] at h1
      rw [show 0 + i * 4 + j = i * 4 + j by omega, h.rows.row.cellAt _ (by omega), List.getElem?_append_left (by rw [fcells_len _ _ h.rows.len]; omega), h1]
    · have hj2 : j < 2 := by
        have := (List.getElem?_eq_some_iff.1 hj).1
        simpa [IN.cells] using this
      have hkl : k < f.code.length := (List.getElem?_eq_some_iff.1 hy).1
      have h1 := icells_at f.code k y hy j hj2
      rw [hj] at h1
      rw [show 0 + k * 2 + j = k * 2 + j by omega, ho.cellAt _ (by omega), List.getElem?_append_left (by rw [icells_length]; omega), h1]
    · have e : g = q := Option.some.inj hq
      rw [← e]
      exact (ho.lt g rfl).2
def LendQ (p : PG) (w : World) (e : Ending) (w' : World) : Prop := Kept (fun _ => False) w w' ∧ ∃ gd dc gf fc cvs, e = .returned (lentQ p gd dc gf fc) ∧ LentQ w.heap.size w' gd dc gf fc p cvs
end Go.Proofs.YtcaadgcfceommaaGreat

/-
  retortlaw12's Lend of a program by contract.
-/
import Derived.Test.YtnjhnlohjhdcpaaLi
import Derived.Test.YtnjhnlohjhdcpaaQl
import Derived.Test.YtnjhnlohjhdcpaaSef
namespace Go.Proofs.Ytnjhnlohjhdcpaa
open Go.ChangeShapes Go.WideShapes Go.ChangeAt Go.RowKit Go.Deep
set_option linter.unusedVariables false
set_option linter.unusedSimpArgs false
set_option maxRecDepth 100000

/-- The marks behind lent code and lent functions. -/
def mkC : List Value := [.int .i64 (-9), .int .i64 0]
def mkF : List Value := [.int .i64 (-9), .int .i64 0, .int .i64 0, .slice none 0 0]
/-- A block of lent code: the instructions, and so many marks behind them. -/
structure LentC (w : World) (g : Nat) (ys : List IN) (j : Nat) : Prop where
  there : w.there g 0 ((ys.length + 3) * 2)
  ents : ∀ (i : Nat) (y : IN), ys[i]? = some y → w.rangeAt g (i * 2) y.cells
  marks : ∀ t, t < j → w.rangeAt g ((ys.length + t) * 2) mkC
theorem LentC.step {w : World} {g : Nat} {ys : List IN} {j : Nat} (h : LentC w g ys j) (hj : j < 3) : LentC (w.setCells g ((ys.length + j) * 2) mkC) g ys (j + 1) := by
  have hth : w.there g ((ys.length + j) * 2) mkC.length := there_sub h.there (by show _ + 2 ≤ _; omega)
  refine ⟨World.there_setCells h.there _ _ _, fun i y hi => ?_, fun t ht => ?_⟩
  · refine World.rangeAt_setCells_apart (h.ents i y hi) _ _ _ (.inr (.inl ?_))
    have hil : i < ys.length := (List.getElem?_eq_some_iff.1 hi).1
    show i * 2 + 2 ≤ _
    omega
  · rcases Nat.lt_or_ge t j with h1 | h1
    · refine World.rangeAt_setCells_apart (h.marks t h1) _ _ _ (.inr (.inl ?_))
      show (ys.length + t) * 2 + 2 ≤ _
      omega
    · have e : t = j := by omega
      subst e
      exact World.rangeAt_setCells_same _ _ _ _ hth
theorem LentC.kept {S : Nat → Prop} {w w' : World} {g : Nat} {ys : List IN} {j : Nat} (h : LentC w g ys j) (hk : Kept S w w') (hS : ¬ S g) : LentC w' g ys j :=
  ⟨there_kept h.there hk hS, fun i y hy k u hu => hk.cell (h.ents i y hy k u hu) hS, fun t ht k u hu => hk.cell (h.marks t ht k u hu) hS⟩
theorem LentC.row {w : World} {g : Nat} {ys : List IN} {j c : Nat} (h : LentC w g ys j) : RowI w (.slice (some ⟨g, 0, none⟩) ys.length c) ys := by
  refine .inr ⟨g, 0, c, rfl, fun i y hy => ?_⟩
  rw [Nat.zero_add]
  exact h.ents i y hy
theorem LentC.lt {w : World} {g : Nat} {ys : List IN} {j : Nat} (h : LentC w g ys j) : g < w.heap.size := by
  have h1 := (h.there 0 (by omega)).1
  cases hc : w.cell? ⟨g, 0 + 0, none⟩ with
  | none => rw [hc] at h1; cases h1
  | some v => exact World.block_lt_of_cell? w _ hc
theorem lendC_copy (w : World) (ao : Option Addr) (c : Nat) (ys : List IN) (hv : RowI w (.slice ao ys.length c) ys) : ∃ W', (Builtin.copy_ #[48, 48] 3 #[.slice (some ⟨w.heap.size, 0, none⟩) (ys.length + 3) (ys.length + 3), .slice ao ys.length c]).run Try.prog (w.alloc (.cells (zin ((ys.length + 3) * 2)) 52)) = .ok (goInt ys.length) W' ∧
    LentC W' w.heap.size ys 0 ∧ Kept (fun _ => False) w W' := by
  have hb := heap_alloc_new w (.cells (zin ((ys.length + 3) * 2)) 52)
  have hkA : Kept (fun _ => False) w (w.alloc (.cells (zin ((ys.length + 3) * 2)) 52)) := (Kept.refl _ _).alloc _
  have hvA := hv.kept hkA (fun _ _ f => f)
  have hth : (w.alloc (.cells (zin ((ys.length + 3) * 2)) 52)).there w.heap.size 0 ((ys.length + 3) * 2) := fun j hj => by
    refine ⟨?_, frozen_block _ _ _ _ _ hb⟩
    rw [cell_block _ _ _ _ _ _ hb, Array.getElem?_eq_getElem (by rw [zin_size]; omega)]
    rfl
  have hel : (icells ys).length = ys.length * 2 := by rw [icells_length]; omega
  have hr := run_copy52 (w.alloc (.cells (zin ((ys.length + 3) * 2)) 52)) 3 w.heap.size (ys.length + 3) (ys.length + 3) ao ys.length c (icells ys) hel (by omega) (fun e => by
    subst e
    rcases hv with ⟨e, _⟩ | ⟨g, o, c', e, _⟩
    · rw [e]; rfl
    · cases e) (fun ad e => by
    subst e
    exact rowI_cells hvA) (there_sub hth (by omega)) (icells_one ys)
  refine ⟨_, hr, ⟨World.there_setCells hth _ _ _, fun i y hi j u hj => ?_, fun t ht => absurd ht (by omega)⟩, hkA.step (kept_cells _ _ _ _) (fun i hi e => by omega)⟩
  have hj2 : j < 2 := by
    have := (List.getElem?_eq_some_iff.1 hj).1
    simpa [IN.cells] using this
  have hs := World.rangeAt_setCells_same (w.alloc (.cells (zin ((ys.length + 3) * 2)) 52)) w.heap.size 0 (icells ys) (there_sub hth (by rw [hel]; omega)) (i * 2 + j) u (by rw [icells_at ys i y hi j hj2, hj])
  rwa [Nat.zero_add] at hs

/-- The cells of a lent function. -/
def lcells (f : FN) (cg : Nat) : List Value := f.cells (.slice (some ⟨cg, 0, none⟩) f.code.length (f.code.length + 3))
/-- A block of lent functions: so many of them, and so many marks behind all. -/
structure LentF (w : World) (g : Nat) (fs : List FN) (cgs : List Nat) (k j : Nat) : Prop where
  there : w.there g 0 ((fs.length + 2) * 4)
  ents : ∀ (i : Nat) (f : FN) (cg : Nat), i < k → fs[i]? = some f → cgs[i]? = some cg → w.rangeAt g (i * 4) (lcells f cg)
  marks : ∀ t, t < j → w.rangeAt g ((fs.length + t) * 4) mkF
theorem LentF.kept {S : Nat → Prop} {w w' : World} {g : Nat} {fs : List FN} {cgs : List Nat} {k j : Nat} (h : LentF w g fs cgs k j) (hk : Kept S w w') (hS : ¬ S g) : LentF w' g fs cgs k j :=
  ⟨there_kept h.there hk hS, fun i f cg hi hf hc q u hu => hk.cell (h.ents i f cg hi hf hc q u hu) hS, fun t ht q u hu => hk.cell (h.marks t ht q u hu) hS⟩
/-- A function is written there. -/
theorem LentF.put {w : World} {g : Nat} {fs : List FN} {cgs : List Nat} {k : Nat} (h : LentF w g fs cgs k 0) (hk : k < fs.length) (cs : List Value) (hcs : cs.length = 4) : LentF (w.setCells g (k * 4) cs) g fs cgs k 0 ∧ (w.setCells g (k * 4) cs).rangeAt g (k * 4) cs := by
  have hth : w.there g (k * 4) cs.length := there_sub h.there (by rw [hcs]; omega)
  refine ⟨⟨World.there_setCells h.there _ _ _, fun i f cg hi hf hc => ?_, fun t ht => absurd ht (by omega)⟩, World.rangeAt_setCells_same _ _ _ _ hth⟩
  refine World.rangeAt_setCells_apart (h.ents i f cg hi hf hc) _ _ _ (.inr (.inl ?_))
  show i * 4 + 4 ≤ _
  omega
/-- Its code is set. -/
theorem LentF.code {w : World} {g : Nat} {fs : List FN} {cgs : List Nat} {k : Nat} {f : FN} {cv : Value} (h : LentF w g fs cgs k 0) (hl : cgs.length = k) (hf : fs[k]? = some f) (hr : w.rangeAt g (k * 4) (f.cells cv)) (cg : Nat) : LentF (w.setCells g (k * 4 + 3) [.slice (some ⟨cg, 0, none⟩) f.code.length (f.code.length + 3)]) g fs (cgs ++ [cg]) (k + 1) 0 := by
  have hk : k < fs.length := (List.getElem?_eq_some_iff.1 hf).1
  have hth : w.there g (k * 4 + 3) ([.slice (some ⟨cg, 0, none⟩) f.code.length (f.code.length + 3)] : List Value).length := there_sub h.there (by show k * 4 + 3 + 1 ≤ _; omega)
  refine ⟨World.there_setCells h.there _ _ _, fun i F c hi hF hc => ?_, fun t ht => absurd ht (by omega)⟩
  by_cases hik : i < k
  · rw [List.getElem?_append_left (by omega)] at hc
    refine World.rangeAt_setCells_apart (h.ents i F c hik hF hc) _ _ _ (.inr (.inl ?_))
    show i * 4 + 4 ≤ _
    omega
  · have e : i = k := by omega
    subst e
    rw [List.getElem?_append_right (by omega), hl, Nat.sub_self] at hc
    rw [hf] at hF
    cases hF
    cases hc
    intro j u hj
    have hj4 : j < 4 := by
      have := (List.getElem?_eq_some_iff.1 hj).1
      simpa [lcells, FN.cells] using this
    have hs := World.rangeAt_setCells_same w g (i * 4 + 3) [.slice (some ⟨cg, 0, none⟩) f.code.length (f.code.length + 3)] hth
    have ha : w.rangeAt g (i * 4) [.int .i64 f.a, .int .i64 f.l, .int .i64 f.r] := fun j u hj => by
      have hj3 : j < 3 := (List.getElem?_eq_some_iff.1 hj).1
      refine hr j u ?_
      match j, hj3, hj with
      | 0, _, hj => exact hj
      | 1, _, hj => exact hj
      | 2, _, hj => exact hj
    have ha2 := World.rangeAt_setCells_apart ha g (i * 4 + 3) [.slice (some ⟨cg, 0, none⟩) f.code.length (f.code.length + 3)] (.inr (.inl (by show i * 4 + 3 ≤ _; omega)))
    match j, hj4, hj with
    | 0, _, hj => exact ha2 0 u hj
    | 1, _, hj => exact ha2 1 u hj
    | 2, _, hj => exact ha2 2 u hj
    | 3, _, hj => exact hs 0 u hj
theorem LentF.mark {w : World} {g : Nat} {fs : List FN} {cgs : List Nat} {j : Nat} (h : LentF w g fs cgs fs.length j) (hj : j < 2) : LentF (w.setCells g ((fs.length + j) * 4) mkF) g fs cgs fs.length (j + 1) := by
  have hth : w.there g ((fs.length + j) * 4) mkF.length := there_sub h.there (by show _ + 4 ≤ _; omega)
  refine ⟨World.there_setCells h.there _ _ _, fun i f cg hi hf hc => ?_, fun t ht => ?_⟩
  · refine World.rangeAt_setCells_apart (h.ents i f cg hi hf hc) _ _ _ (.inr (.inl ?_))
    show i * 4 + 4 ≤ _
    omega
  · rcases Nat.lt_or_ge t j with h1 | h1
    · refine World.rangeAt_setCells_apart (h.marks t h1) _ _ _ (.inr (.inl ?_))
      show (fs.length + t) * 4 + 4 ≤ _
      omega
    · have e : t = j := by omega
      subst e
      exact World.rangeAt_setCells_same _ _ _ _ hth
theorem LentF.lt {w : World} {g : Nat} {fs : List FN} {cgs : List Nat} {k j : Nat} (h : LentF w g fs cgs k j) : g < w.heap.size := by
  have h1 := (h.there 0 (by omega)).1
  cases hc : w.cell? ⟨g, 0 + 0, none⟩ with
  | none => rw [hc] at h1; cases h1
  | some v => exact World.block_lt_of_cell? w _ hc
def zfn (n : Nat) : Array Value := madeCells (Value.agg #[.int .i64 0, .int .i64 0, .int .i64 0, .slice none 0 0]).cells n
theorem zfn_size (n : Nat) : (zfn n).size = n := size_madeCells _ n
theorem make_fns (W : World) (l : Nat) (h : l * 48 ≤ 140737488355328) : (Instr.makeSlice 23 (.int .i64 (l : Int)) (.int .i64 (l : Int))).run Try.prog W = .ok (.slice (some ⟨W.heap.size, 0, none⟩) l l) (W.alloc (.cells (zfn (l * 4)) 50)) := by
  obtain ⟨i0, hi, hz0, hz1, hz2⟩ := info_parts Try.info50
  have := run_make (P := Try.prog) W 23 50 i0 _ Try.underlying23 hi hz0 .i64 .i64 (l : Int) (l : Int) (by omega) (by omega) (by rw [hz2]; omega) (by omega)
  rw [hz1] at this
  simpa [zfn, Value.cells] using this

/-- A lent program as a value. -/
def lentV (p : PG) (gd gl : Nat) : Value := .agg #[.int .i64 p.mem, .slice (some ⟨gd, 0, none⟩) p.data.length (p.data.length + 5), .slice (some ⟨gl, 0, none⟩) p.fns.length (p.fns.length + 2)]
/-- A lent program in memory. -/
structure LentP (w : World) (gd gl : Nat) (cgs : List Nat) (p : PG) : Prop where
  dat : Lent5 w gd p.data 5
  len : cgs.length = p.fns.length
  fns : LentF w gl p.fns cgs p.fns.length 2
  code : ∀ (i : Nat) (f : FN) (cg : Nat), p.fns[i]? = some f → cgs[i]? = some cg → LentC w cg f.code 3
theorem LentP.kept {S : Nat → Prop} {w w' : World} {gd gl : Nat} {cgs : List Nat} {p : PG} (h : LentP w gd gl cgs p) (hk : Kept S w w') (h1 : ¬ S gd) (h2 : ¬ S gl) (h3 : ∀ cg ∈ cgs, ¬ S cg) : LentP w' gd gl cgs p :=
  ⟨h.dat.kept hk h1, h.len, h.fns.kept hk h2, fun i f cg hf hc => (h.code i f cg hf hc).kept hk (h3 cg (List.mem_of_getElem? hc))⟩
theorem LentP.same {w w' : World} {gd gl : Nat} {cgs : List Nat} {p : PG} (h : LentP w gd gl cgs p) (hk : Kept (fun _ => False) w w') : LentP w' gd gl cgs p := h.kept hk (fun f => f) (fun f => f) (fun _ _ f => f)
theorem LentP.pg {w : World} {gd gl : Nat} {cgs : List Nat} {p : PG} (h : LentP w gd gl cgs p) : PgIs w w.heap.size (lentV p gd gl) p := by
  refine ⟨_, _, rfl, h.dat.bin, fun q hq => ?_, .inr ⟨gl, 0, p.fns.length + 2, rfl, h.fns.lt, fun i f hf => ?_⟩⟩
  · have e : gd = q := Option.some.inj hq
    rw [← e]
    obtain ⟨cur, h0, _⟩ := h.dat
    exact (Array.getElem?_eq_some_iff.1 h0).1
  · have hi : i < p.fns.length := (List.getElem?_eq_some_iff.1 hf).1
    obtain ⟨cg, hcg⟩ : ∃ cg, cgs[i]? = some cg := ⟨_, List.getElem?_eq_getElem (by rw [h.len]; exact hi)⟩
    have hc := h.code i f cg hf hcg
    refine ⟨.slice (some ⟨cg, 0, none⟩) f.code.length (f.code.length + 3), ?_, hc.row, fun q hq _ => ?_⟩
    · rw [Nat.zero_add]
      exact h.fns.ents i f cg hi hf hcg
    · have e : cg = q := Option.some.inj hq
      rw [← e]
      exact hc.lt
/-- While the bytes' marks are written. -/
structure LdK (w wr : World) (gb : Nat) (bc : Array Value) (mem : Int) (xs : List Int) (j : Nat) : Prop where
  dat : Lent5 wr (gb + 3) xs j
  kept : Kept (fun _ => False) w wr
  box : wr.heap[gb]? = some (.cells bc 25 (0, 0))
  res : wr.heap[gb + 1]? = some (.cells #[.int .i64 0, .slice none 0 0, .slice none 0 0] 25 (0, 0))
  q : wr.heap[gb + 2]? = some (.cells #[.int .i64 mem, .slice none 0 0, .slice none 0 0] 25 (0, 0))
  new : w.heap.size ≤ gb
theorem LdK.step {w wr : World} {gb : Nat} {bc : Array Value} {mem : Int} {xs : List Int} {j : Nat} (h : LdK w wr gb bc mem xs j) (hj : j < 5) : LdK w (wr.setCell ⟨gb + 3, xs.length + j, none⟩ (.int .u8 201)) gb bc mem xs (j + 1) := by
  have hk := kept_set wr (gb + 3) (xs.length + j) (.int .u8 201)
  have hn := h.new
  exact ⟨h.dat.step hj, h.kept.step hk (fun i hi e => by omega), box_kept hk h.box (by omega), box_kept hk h.res (by omega), box_kept hk h.q (by omega), hn⟩
/-- What holds at the head of Lend's loop over the functions. -/
structure LnK (w wr : World) (gb gl : Nat) (bc qc : Array Value) (p : PG) (cgs : List Nat) (k j : Nat) : Prop where
  box : wr.heap[gb]? = some (.cells bc 25 (0, 0))
  res : wr.heap[gb + 1]? = some (.cells #[.int .i64 0, .slice none 0 0, .slice none 0 0] 25 (0, 0))
  q : wr.heap[gb + 2]? = some (.cells qc 25 (0, 0))
  dat : Lent5 wr (gb + 3) p.data 5
  lenc : cgs.length = k
  fns : LentF wr gl p.fns cgs k j
  code : ∀ (i : Nat) (f : FN) (cg : Nat), p.fns[i]? = some f → cgs[i]? = some cg → LentC wr cg f.code 3 ∧ cg ≠ gl ∧ cg ≠ gb + 1 ∧ cg ≠ gb + 2
  new : ∀ cg ∈ cgs, w.heap.size ≤ cg
  kept : Kept (fun _ => False) w wr
  off : gb + 3 < gl ∧ w.heap.size ≤ gb
theorem LnK.next {w wr w' : World} {gb gl : Nat} {bc qc : Array Value} {p : PG} {cgs : List Nat} {k cg : Nat} {f : FN} (h : LnK w wr gb gl bc qc p cgs k 0) (hf : p.fns[k]? = some f) (hk : Kept (fun q => q = gl) wr w') (hF : LentF w' gl p.fns (cgs ++ [cg]) (k + 1) 0) (hC : LentC w' cg f.code 3) (hn : wr.heap.size ≤ cg) : LnK w w' gb gl bc qc p (cgs ++ [cg]) (k + 1) 0 := by
  have hs := h.kept.size
  have ho := h.off
  have hgl := h.fns.lt
  refine ⟨box_kept hk h.box (by omega), box_kept hk h.res (by omega), box_kept hk h.q (by omega), h.dat.kept hk (by omega), by rw [List.length_append, h.lenc]; rfl, hF, fun i F c hF' hc => ?_, fun c hc => ?_, h.kept.step hk (fun i hi e => by omega), ho⟩
  · by_cases hik : i < cgs.length
    · rw [List.getElem?_append_left hik] at hc
      obtain ⟨h1, h2⟩ := h.code i F c hF' hc
      exact ⟨h1.kept hk h2.1, h2⟩
    · have hl2 : i < (cgs ++ [cg]).length := (List.getElem?_eq_some_iff.1 hc).1
      rw [List.length_append] at hl2
      have e : i = cgs.length := by simp at hl2; omega
      subst e
      rw [List.getElem?_append_right (Nat.le_refl _), Nat.sub_self] at hc
      cases hc
      rw [h.lenc, hf] at hF'
      cases hF'
      exact ⟨hC, by omega, by omega, by omega⟩
  · rcases List.mem_append.1 hc with hc | hc
    · exact h.new c hc
    · have : c = cg := by simpa using hc
      omega
theorem LnK.mark {w wr : World} {gb gl : Nat} {bc qc : Array Value} {p : PG} {cgs : List Nat} {j : Nat} (h : LnK w wr gb gl bc qc p cgs p.fns.length j) (hj : j < 2) : LnK w (wr.setCells gl ((p.fns.length + j) * 4) mkF) gb gl bc qc p cgs p.fns.length (j + 1) := by
  have hk := kept_cells gl mkF ((p.fns.length + j) * 4) wr
  have ho := h.off
  refine ⟨box_kept hk h.box (by omega), box_kept hk h.res (by omega), box_kept hk h.q (by omega), h.dat.kept hk (by omega), h.lenc, h.fns.mark hj, fun i F c hF hc => ?_, h.new, h.kept.step hk (fun i hi e => by omega), ho⟩
  obtain ⟨h1, h2⟩ := h.code i F c hF hc
  exact ⟨h1.kept hk h2.1, h2⟩
theorem LnK.done {w wr w' : World} {gb gl : Nat} {bc qc : Array Value} {p : PG} {cgs : List Nat} (h : LnK w wr gb gl bc qc p cgs p.fns.length 2) (hk : Kept (fun q => q = gb + 1 ∨ q = gb + 2) wr w') : LentP w' (gb + 3) gl cgs p ∧ Kept (fun _ => False) w w' := by
  have ho := h.off
  exact ⟨⟨h.dat.kept hk (by omega), h.lenc, h.fns.kept hk (by omega), fun i f cg hf hc => (h.code i f cg hf hc).1.kept hk (by have := (h.code i f cg hf hc).2; omega)⟩, h.kept.step hk (fun i hi e => by omega)⟩
end Go.Proofs.Ytnjhnlohjhdcpaa

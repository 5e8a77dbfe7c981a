/-
  TBo: Bo.
-/
import Derived.Test.YtgoabnehdmdikaaGreatDoorTLi
import Derived.Test.YtgoabnehdmdikaaGreatDoorTLnd
import Derived.Test.YtgoabnehdmdikaaGreatDoorTQp
import Derived.Test.YtgoabnehdmdikaaGreatDoorTBc
import Derived.Deep.MidRow
namespace Go.Proofs.YtgoabnehdmdikaaGreatDoor
open Go.RowKit Go.Deep
set_option linter.unusedVariables false
set_option linter.unusedSimpArgs false
set_option maxRecDepth 100000

theorem size78 : (Tryz.prog.info? 78).map (·.size) = some 4 := by kernel_rfl
theorem four_oneA (a b c d : Value) (ha : a.oneCell' = true) (hb : b.oneCell' = true) (hc : c.oneCell' = true) (hd : d.oneCell' = true) : #[a, b, c, d].all (·.oneCell') = true := by
  simp [ha, hb, hc, hd]
/-- The mark in the place i. -/
def mkG (i : Nat) : List Value := [.int .i64 (-70 - (i : Int)), .int .i64 0, .int .i64 0, .slice none 0 0]
def gcells (f : FN) (cg : Nat) : List Value := f.cells (.slice (some ⟨cg, 0, none⟩) f.code.length (f.code.length + 67))
structure LentG (w : World) (g : Nat) (fs : List FN) (cgs : List Nat) (k : Nat) : Prop where
  there : w.there g 0 ((fs.length + 7) * 4)
  ents : ∀ (i : Nat) (f : FN) (cg : Nat), i < k → fs[i]? = some f → cgs[i]? = some cg → w.rangeAt g (i * 4) (gcells f cg)
  marks : ∀ i, fs.length ≤ i → i < k → w.rangeAt g (i * 4) (mkG i)
theorem LentG.kept {S : Nat → Prop} {w w' : World} {g : Nat} {fs : List FN} {cgs : List Nat} {k : Nat} (h : LentG w g fs cgs k) (hk : Kept S w w') (hS : ¬ S g) : LentG w' g fs cgs k :=
  ⟨there_kept h.there hk hS, fun i f cg hi hf hc q u hu => hk.cell (h.ents i f cg hi hf hc q u hu) hS, fun i h0 h1 q u hu => hk.cell (h.marks i h0 h1 q u hu) hS⟩
/-- A row of four is written at the place k. -/
theorem LentG.put {w : World} {g : Nat} {fs : List FN} {cgs : List Nat} {k : Nat} (h : LentG w g fs cgs k) (hk : k < fs.length + 7) (cs : List Value) (hcs : cs.length = 4) : LentG (w.setCells g (k * 4) cs) g fs cgs k ∧ (w.setCells g (k * 4) cs).rangeAt g (k * 4) cs := by
  have hth : w.there g (k * 4) cs.length := there_sub h.there (by rw [hcs]; omega)
  refine ⟨⟨World.there_setCells h.there _ _ _, fun i f cg hi hf hc => ?_, fun i h0 h1 => ?_⟩, World.rangeAt_setCells_same _ _ _ _ hth⟩
  · refine World.rangeAt_setCells_apart (h.ents i f cg hi hf hc) _ _ _ (.inr (.inl ?_))
    show i * 4 + 4 ≤ _
    omega
  · refine World.rangeAt_setCells_apart (h.marks i h0 h1) _ _ _ (.inr (.inl ?_))
    show i * 4 + 4 ≤ _
    omega
theorem LentG.mark {w : World} {g : Nat} {fs : List FN} {cgs : List Nat} {k : Nat} (h : LentG w g fs cgs k) (hk : fs.length ≤ k) (hr : w.rangeAt g (k * 4) (mkG k)) : LentG w g fs cgs (k + 1) := by
  refine ⟨h.there, fun i f cg hi hf hc => ?_, fun i h0 h1 => ?_⟩
  · have : i < fs.length := (List.getElem?_eq_some_iff.1 hf).1
    exact h.ents i f cg (by omega) hf hc
  · by_cases e : i = k
    · subst e; exact hr
    · exact h.marks i h0 (by omega)
/-- Its code is set. -/
theorem LentG.code {w : World} {g : Nat} {fs : List FN} {cgs : List Nat} {k : Nat} {f : FN} {cv : Value} (h : LentG w g fs cgs k) (hl : cgs.length = k) (hf : fs[k]? = some f) (hr : w.rangeAt g (k * 4) (f.cells cv)) (cg : Nat) : LentG (w.setCell ⟨g, k * 4 + 3, none⟩ (.slice (some ⟨cg, 0, none⟩) f.code.length (f.code.length + 67))) g fs (cgs ++ [cg]) (k + 1) := by
  have hk : k < fs.length := (List.getElem?_eq_some_iff.1 hf).1
  show LentG (w.setCells g (k * 4 + 3) [.slice (some ⟨cg, 0, none⟩) f.code.length (f.code.length + 67)]) g fs (cgs ++ [cg]) (k + 1)
  have hth : w.there g (k * 4 + 3) ([.slice (some ⟨cg, 0, none⟩) f.code.length (f.code.length + 67)] : List Value).length := there_sub h.there (by show k * 4 + 3 + 1 ≤ _; omega)
  refine ⟨World.there_setCells h.there _ _ _, fun i F c hi hF hc => ?_, fun i h0 h1 => absurd h0 (by omega)⟩
  by_cases hik : i < k
  · rw [List.getElem?_append_left (by omega)] at hc
    refine World.rangeAt_setCells_apart (h.ents i F c hik hF hc) _ _ _ (.inr (.inl ?_))
    show i * 4 + 4 ≤ _
    omega
  · have e : i = k := by omega
    subst e
    rw [List.getElem?_append_right (by omega), hl, Nat.sub_self] at hc
    rw [hf] at hF
    cases hF
    cases hc
    intro j u hj
    have hj4 : j < 4 := by
      have := (List.getElem?_eq_some_iff.1 hj).1
      simpa [gcells, FN.cells] using this
    have hs := World.rangeAt_setCells_same w g (i * 4 + 3) [.slice (some ⟨cg, 0, none⟩) f.code.length (f.code.length + 67)] hth
    have ha : w.rangeAt g (i * 4) [.int .i64 f.a, .int .i64 f.l, .int .i64 f.r] := fun j u hj => by
      have hj3 : j < 3 := (List.getElem?_eq_some_iff.1 hj).1
      refine hr j u ?_
      match j, hj3, hj with
      | 0, _, hj => exact hj
      | 1, _, hj => exact hj
      | 2, _, hj => exact hj
    have ha2 := World.rangeAt_setCells_apart ha g (i * 4 + 3) [.slice (some ⟨cg, 0, none⟩) f.code.length (f.code.length + 67)] (.inr (.inl (by show i * 4 + 3 ≤ _; omega)))
    match j, hj4, hj with
    | 0, _, hj => exact ha2 0 u hj
    | 1, _, hj => exact ha2 1 u hj
    | 2, _, hj => exact ha2 2 u hj
    | 3, _, hj => exact hs 0 u hj
theorem LentG.lt {w : World} {g : Nat} {fs : List FN} {cgs : List Nat} {k : Nat} (h : LentG w g fs cgs k) : g < w.heap.size := by
  have h1 := (h.there 0 (by omega)).1
  cases hc : w.cell? ⟨g, 0 + 0, none⟩ with
  | none => rw [hc] at h1; cases h1
  | some v => exact World.block_lt_of_cell? w _ hc
theorem Tryz.info78 : (Tryz.prog.info? 78).map (fun i => (i.zero, i.size, i.bytes)) = some (some (.agg #[.int .i64 0, .int .i64 0, .int .i64 0, .slice none 0 0]), 4, 48) := by kernel_rfl
def zfn (n : Nat) : Array Value := madeCells (Value.agg #[.int .i64 0, .int .i64 0, .int .i64 0, .slice none 0 0]).cells n
theorem zfn_size (n : Nat) : (zfn n).size = n := size_madeCells _ n
theorem make_fns (W : World) (l : Nat) (h : l * 48 ≤ 140737488355328) : (Instr.makeSlice 24 (.int .i64 (l : Int)) (.int .i64 (l : Int))).run Tryz.prog W = .ok (.slice (some ⟨W.heap.size, 0, none⟩) l l) (W.alloc (.cells (zfn (l * 4)) 78)) := by
  obtain ⟨i0, hi, hz0, hz1, hz2⟩ := info_parts Tryz.info78
  have := run_make (P := Tryz.prog) W 24 78 i0 _ Tryz.underlying24 hi hz0 .i64 .i64 (l : Int) (l : Int) (by omega) (by omega) (by rw [hz2]; omega) (by omega)
  rw [hz1] at this
  simpa [zfn, Value.cells] using this
/-- A lent program as a value. -/
def lentV (p : PG) (gd gl : Nat) : Value := .agg #[.int .i64 p.mem, .slice (some ⟨gd, 0, none⟩) p.data.length (p.data.length + 67), .slice (some ⟨gl, 0, none⟩) p.fns.length (p.fns.length + 7)]
/-- A lent program in memory. -/
structure LentP (w : World) (gd gl : Nat) (cgs : List Nat) (p : PG) (k : Nat) : Prop where
  dat : Lent2 w gd p.data 67
  dl : gd < gl
  fns : LentG w gl p.fns cgs k
  code : ∀ (i : Nat) (f : FN) (cg : Nat), p.fns[i]? = some f → cgs[i]? = some cg → LentI w cg f.code 67
  len : cgs.length = min k p.fns.length
  up : cgs.Pairwise (· < ·)
  lo : ∀ cg ∈ cgs, gl < cg
theorem LentP.kept {S : Nat → Prop} {w w' : World} {gd gl : Nat} {cgs : List Nat} {p : PG} {k : Nat} (h : LentP w gd gl cgs p k) (hk : Kept S w w') (hd : ¬ S gd) (hS : ∀ q, gl ≤ q → ¬ S q) : LentP w' gd gl cgs p k :=
  ⟨h.dat.kept hk hd, h.dl, h.fns.kept hk (hS gl (Nat.le_refl _)), fun i f cg hf hc => (h.code i f cg hf hc).kept hk (hS cg (Nat.le_of_lt (h.lo cg (List.mem_of_getElem? hc)))), h.len, h.up, h.lo⟩
end Go.Proofs.YtgoabnehdmdikaaGreatDoor

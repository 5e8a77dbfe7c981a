/-
  Instructions that are handed in, opened.
-/
import Derived.Test.YtindhkjcifghhabOo
import Derived.OpenShut
import Derived.Deep.Strs
import Derived.ChangeSlices
import Derived.SizedLaws
namespace Go.Proofs.Ytindhkjcifghhab
open Go.ChangeShapes Go.WideShapes Go.ChangeAt Go.WideMaps Go.WideElems Go.RowKit Go.Deep
set_option linter.unusedVariables false
set_option linter.unusedSimpArgs false
set_option maxRecDepth 100000

theorem cells3' : Try.prog.cellsOf 3 = 1 := by kernel_rfl
theorem cells52 : Try.prog.cellsOf 42 = 2 := by kernel_rfl
theorem laidOut : laidOutB Try.prog = true := by kernel_rfl
section
variable {H : Type} {enc : TypeId × Value → H} {W : World} {base : Nat} {spare : Nat → Bool} {held : Bool}
theorem open_in {fuel : Nat} {cs : List Value} {x : DataW H × List MemPlace} (h : DataW.trod enc Try.prog W base spare held fuel 42 cs = some x) : ∃ y : IN, cs = y.cells ∧ y.Ok := by
  obtain ⟨ys, n, _, _, hl, hlen, hf⟩ := DataW.trod_struct Try.underlying42 h
  rw [cells52] at hl
  match ys, hlen with
  | [y0, y1], _ =>
    have g0 : DataW.trod enc Try.prog W base spare held n 3 ((cs.drop 0).take 1) = some y0 := by simpa [cells3'] using hf 0 _ rfl
    have g1 : DataW.trod enc Try.prog W base spare held n 3 ((cs.drop 1).take 1) = some y1 := by simpa [cells3'] using hf 1 _ rfl
    obtain ⟨k0, e0, _, w0⟩ := DataW.trod_int Try.underlying3 g0
    obtain ⟨k1, e1, _, w1⟩ := DataW.trod_int Try.underlying3 g1
    have b0 := bounds_i64 w0
    have b1 := bounds_i64 w1
    refine ⟨⟨k0, k1⟩, ?_, ⟨⟨b0.1, show k0 < 9223372036854775808 by omega⟩, b1.1, show k1 < 9223372036854775808 by omega⟩⟩
    have q : cs = (cs.drop 0).take 1 ++ (cs.drop 1).take 1 := by
      apply List.ext_getElem?
      intro i
      simp only [List.getElem?_append, List.length_take, List.length_drop, List.getElem?_take, List.getElem?_drop, hl]
      repeat' split
      all_goals (first | (congr 1; omega) | (rw [List.getElem?_eq_none (by omega)]) | omega)
    rw [e0, e1] at q
    rw [q]
    rfl
theorem open_ins {fuel : Nat} {v : Value} {x : DataW H × List MemPlace} (h : DataW.trod enc Try.prog W base spare held fuel 22 [v] = some x) : ∃ ys : List IN, RowI W v ys ∧ (∀ y ∈ ys, y.Ok) ∧ ys.length ≤ 9223372036854775807 := by
  rcases open_slice Try.underlying22 h with ⟨hcs, _⟩ | ⟨a, len, cap, m, n, D, Pl, hcs, hb, hl, hm, hm', _, hel⟩
  · cases hcs
    exact ⟨[], .inl ⟨rfl, none, 0, rfl⟩, by simp, by simp⟩
  · cases hcs
    by_cases h0 : len = 0
    · exact ⟨[], .inl ⟨rfl, some a, cap, by rw [h0]⟩, by simp, by simp⟩
    · have hlm : len ≤ m := by rw [hm']; split <;> omega
      rw [cells52] at hel
      have hin : Inhabited IN := ⟨⟨0, 0⟩⟩
      obtain ⟨f, hf⟩ := choose_lt (n := len) (p := fun i (y : IN) => W.cells? base (a.add (i * 2)) 2 = some y.cells ∧ y.Ok) (fun i hi => by
        obtain ⟨cs', h1, h2⟩ := hel i (by omega)
        obtain ⟨y, rfl, h3⟩ := open_in h2
        exact ⟨y, h1, h3⟩)
      have hcell : ∀ i, i < len → ∀ j, j < 2 → W.cell? ((a.add (i * 2)).add j) = (f i).cells[j]? := fun i hi => (World.cells?_some (hf i hi).1).2.2
      obtain ⟨b, off, spot⟩ := a
      have hc0 : W.cell? (((⟨b, off, spot⟩ : Addr).add (0 * 2)).add 0) = some (.int .i64 (f 0).op) := hcell 0 (by omega) 0 (by omega)
      have hspot : spot = none := by simpa [Addr.add] using World.cell?_spot hc0
      subst hspot
      refine ⟨(List.range len).map f, .inr ⟨b, off, cap, by simp, fun i y hy j u hj => ?_⟩, fun y hy => ?_, by simp; unfold maxLen at hm; omega⟩
      · have hi : i < len := by
          have := (List.getElem?_eq_some_iff.1 hy).1
          simpa using this
        obtain rfl : f i = y := by simpa [hi] using hy
        have hj2 : j < 2 := by
          have := (List.getElem?_eq_some_iff.1 hj).1
          simpa [IN.cells] using this
        have := hcell i hi j hj2
        rw [Addr.add_lit, Addr.add_lit] at this
        rw [this, hj]
      · obtain ⟨i, hi, rfl⟩ := List.mem_map.1 hy
        exact (hf i (List.mem_range.1 hi)).2
end
end Go.Proofs.Ytindhkjcifghhab

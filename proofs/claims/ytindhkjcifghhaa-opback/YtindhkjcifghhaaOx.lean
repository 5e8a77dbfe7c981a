/-
  Bytes that are handed in, as a Reader's source.
-/
import Derived.Test.YtindhkjcifghhaaOy
import Derived.Test.YtindhkjcifghhaaBk
namespace Go.Proofs.Ytindhkjcifghhaa
open Go.ChangeShapes Go.WideShapes Go.ChangeAt Go.WideMaps Go.WideElems Go.RowKit Go.Deep
set_option linter.unusedVariables false
set_option linter.unusedSimpArgs false
set_option maxRecDepth 100000

theorem slice_spot {t e : TypeId} (ht : Try.prog.underlying t = some (.slice e)) {W : World} {base : Nat} {a : Addr} {len cap : Nat} (h : Value.okWide Try.prog W .any base t (.slice (some a) len cap)) : a.spot = none := by
  simp only [Value.okWide, ht, Cell.okWide, Cell.ok] at h
  exact h.2.2.2.1
theorem open_srcR {H : Type} {enc : TypeId × Value → H} {W : World} {base : Nat} {v : Value} {d : DataW H} {p : List MemPlace} (hval : Value.okWide Try.prog W .any base 36 v) (h : DataW.Trod enc Try.prog W 0 (fun _ => true) true 36 v d p) :
    ∃ (xs : List Int) (ao : Option Addr) (c : Nat), v = .slice ao xs.length c ∧ IsB W v xs ∧ SrcR W v xs ∧ (∀ x ∈ xs, 0 ≤ x ∧ x < 256) ∧ (xs = [] ∨ ∃ sp, d = .slice (lits .u8 xs) sp) := by
  obtain ⟨xs, ao, c, rfl, hB, hC, hr, hd⟩ := open_bin hval h
  refine ⟨xs, ao, c, rfl, hB, ?_, hr, hd⟩
  cases ao with
  | none =>
    rcases hC with hC | ⟨a, c', hC, _⟩
    · have hx : xs.length = 0 := by injection hC
      have h0 : xs = [] := List.length_eq_zero_iff.1 hx
      exact .inl ⟨hC, h0⟩
    · cases hC
  | some a =>
    have hlt := slice_lt Try.underlying36 hval a.block (by simp [Value.ownBlock])
    have hsp := slice_spot Try.underlying36 hval
    obtain ⟨fuel, hf⟩ := h
    rcases open_ints Try.underlying36 Try.underlying5 cells5 hf with ⟨hcs, _⟩ | ⟨a', len', cap', zs, hcs, _, hl, hm, hz, hx, hcell, hwz⟩
    · simp [Value.cells] at hcs
    · simp [Value.cells] at hcs
      obtain ⟨rfl, rfl, rfl⟩ := hcs
      obtain ⟨b, o, spot⟩ := a
      simp only at hsp
      subst hsp
      refine .inr ⟨b, hlt, ?_, by simp [Value.ownBlock]⟩
      by_cases h0 : c = 0
      · subst h0
        have hx0 : xs.length = 0 := by omega
        exact .inl ⟨List.length_eq_zero_iff.1 hx0, some ⟨b, o, none⟩, .inr ⟨o, rfl⟩, by rw [hx0]⟩
      · refine .inr ⟨o, c, rfl, hl, by omega, hm, fun i hi => ?_⟩
        rcases hB with ⟨e, _⟩ | ⟨g, o', c', e, hc⟩
        · rw [e] at hi; simp at hi
        · cases e
          exact hc i hi
end Go.Proofs.Ytindhkjcifghhaa

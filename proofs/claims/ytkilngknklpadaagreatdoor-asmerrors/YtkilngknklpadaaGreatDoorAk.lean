/-
  A text of two lines is read.
-/
import Derived.Test.YtkilngknklpadaaGreatDoorAj
namespace Go.Proofs.YtkilngknklpadaaGreatDoor
open Go.RowKit
set_option linter.unusedVariables false
set_option linter.unusedSimpArgs false
set_option maxRecDepth 100000

abbrev srcB : ByteArray := ⟨#[102, 117, 110, 99, 32, 109, 97, 105, 110, 32, 48, 32, 48, 32, 49, 10, 114, 101, 116]⟩
abbrev ln1B : ByteArray := ⟨#[102, 117, 110, 99, 32, 109, 97, 105, 110, 32, 48, 32, 48, 32, 49]⟩
abbrev ln2B : ByteArray := ⟨#[114, 101, 116]⟩
abbrev nlB : ByteArray := ⟨#[10]⟩
theorem split_is : (Lib.splitB nlB 0 (Lib.countB srcB nlB) srcB).map Value.string = [.string ln1B, .string ln2B] := by rfl
theorem count_is : Lib.countB srcB nlB + 1 = 2 := by rfl
def p1 : PG := ⟨0, [], [⟨0, 0, 1, [⟨18, 0⟩]⟩]⟩
theorem p1_ok : p1.Ok := by
  refine ⟨by decide, ⟨by simp [p1], by simp [p1]⟩, fun f hf => ?_, by decide⟩
  simp [p1] at hf
  subst hf
  exact ⟨by decide, by decide, by decide, fun y hy => by simp at hy; subst hy; exact ⟨by decide, by decide⟩, by decide⟩
theorem p1_check : checkP p1 = 0 := by kernel_rfl
theorem pg_of {w0 w : World} {r : Nat} {cv : Value} (h : RdB w0 w r 0 0 1 cv) (ho : w.ownsRow w0.heap.size 51 2 cv 1 [.int .i64 18, .int .i64 0]) :
    ∃ fa fc mv lv, w.heap[r]? = some (.cells #[.int .i64 0, .slice none 0 0, .slice fa 1 fc, .bool false, mv, lv, .slice none 0 0] 61 (0, 0)) ∧ PgIs w w.heap.size (.agg #[.int .i64 0, .slice none 0 0, .slice fa 1 fc]) p1 := by
  obtain ⟨fv, lv, mv, hb, hf⟩ := h.ex
  obtain ⟨gf, cf, rfl⟩ := own_at hf (by decide)
  obtain ⟨gc, cc, rfl⟩ := own_at ho (by decide)
  refine ⟨_, _, _, _, hb, _, _, rfl, .inl ⟨rfl, _, _, rfl⟩, (fun q hq => by cases hq), .inr ⟨gf, 0, cf, rfl, (hf.lt gf rfl).2, fun i f hi => ?_⟩⟩
  have hi0 : i = 0 := by
    have := (List.getElem?_eq_some_iff.1 hi).1
    simp [p1] at this
    exact this
  subst hi0
  simp [p1] at hi
  subst hi
  refine ⟨_, fun j v hv => ?_, .inr ⟨gc, 0, cc, rfl, fun i y hy => ?_⟩, fun q hq _ => (ho.lt q hq).2⟩
  · have := hf.cells (g := gf) rfl j v hv
    rw [Addr.add_lit, Nat.zero_add] at this
    simpa using this
  · have hi0 : i = 0 := by
      have := (List.getElem?_eq_some_iff.1 hy).1
      simp at this
      exact this
    subst hi0
    simp at hy
    subst hy
    intro j v hv
    have := ho.cells (g := gc) rfl j v hv
    rw [Addr.add_lit, Nat.zero_add] at this
    simpa using this
end Go.Proofs.YtkilngknklpadaaGreatDoor

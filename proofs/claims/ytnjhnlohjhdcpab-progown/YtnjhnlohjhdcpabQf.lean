/-
  The reference's Encode of a program: the walk.
-/
import Derived.Test.YtnjhnlohjhdcpabQde
import Derived.Test.YtnjhnlohjhdcpabWdz
namespace Go.Proofs.Ytnjhnlohjhdcpab
open Go.ChangeShapes Go.WideShapes Go.ChangeAt Go.RowKit Go.Deep
set_option linter.unusedVariables false
set_option linter.unusedSimpArgs false
set_option maxRecDepth 100000

theorem checkP_zero {p : PG} (h : checkP p = 0) : (0 ≤ p.mem ∧ p.mem ≤ 65536) ∧ p.data.length ≤ 65536 ∧ 1 ≤ p.fns.length ∧ p.fns.length ≤ 64 ∧ ∀ f ∈ p.fns, ((0 ≤ f.a ∧ f.a ≤ 16) ∧ (0 ≤ f.l ∧ f.l ≤ 64) ∧ (0 ≤ f.r ∧ f.r ≤ 1)) ∧ encE f.code = 0 := by
  unfold checkP at h
  rcases bad_cases p with ⟨_, hb⟩ | ⟨hb, hb2⟩
  · rw [if_pos hb] at h; cases h
  · rw [if_neg (by rw [hb2]; decide)] at h
    refine ⟨⟨by omega, by omega⟩, by omega, by omega, by omega, fun f hf => ?_⟩
    have he := firstF_zero _ h f hf
    rcases badF_cases f with ⟨_, h1⟩ | ⟨h1, h2⟩
    · rw [h1] at he; cases he
    · exact ⟨by omega, by rw [← h2]; exact he⟩

end Go.Proofs.Ytnjhnlohjhdcpab

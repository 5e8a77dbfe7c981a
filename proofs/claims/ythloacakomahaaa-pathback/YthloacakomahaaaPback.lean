/-
  What Clean, Split and Join tell of one another.
-/
import Derived.Test.YthloacakomahaaaPsplit
import Derived.Test.YthloacakomahaaaJoin
namespace Go.Proofs.Ythloacakomahaaa
set_option linter.unusedVariables false
set_option linter.unusedSimpArgs false

theorem clean_err (l p : List UInt8) (e : Int) (h : cleanOf l = (p, e)) (he : e ≠ 0) : p = [] := by
  rw [cleanOf] at h
  split at h
  · cases h; rfl
  · split at h
    · cases h; rfl
    · split at h
      · cases h; rfl
      · cases h; exact absurd rfl he
theorem clean_row (l p : List UInt8) (h : cleanOf l = (p, 0)) : ∃ R, (∀ y ∈ R, isName y = true) ∧ R.length ≤ 32 ∧ joinP R = p := by
  rw [cleanOf] at h
  split at h
  · cases h
  · split at h
    · rename_i e he
      cases h
      exfalso
      have : ∀ (xs row : List (List UInt8)), foldC row xs ≠ .error 0 := by
        intro xs
        induction xs with
        | nil => intro row h; cases h
        | cons x xs ih =>
          intro row h
          rw [foldC] at h
          cases hs : stepC row x with
          | ok r => rw [hs] at h; exact ih r h
          | error e =>
            rw [hs] at h
            cases h
            rw [stepC] at hs
            split at hs
            · cases hs
            · split at hs
              · split at hs
                · cases hs
                · cases hs
              · split at hs
                · cases hs
                · cases hs
      exact this _ _ he
    · rename_i row he
      split at h
      · cases h
      · rename_i h32
        cases h
        exact ⟨row, foldC_names _ _ _ he (fun y h => by cases h), by omega, rfl⟩

/-- Of names, not too many: their path, and what is told of it. -/
theorem row_clean (R : List (List UInt8)) (hn : ∀ y ∈ R, isName y = true) (hl : R.length ≤ 32) : partsOf (joinP R) = R ∧ isClean (joinP R) = true ∧ cleanOf (joinP R) = (joinP R, 0) ∧ depthOf (joinP R) = (R.length : Int) ∧ (joinP R).length ≤ 2080 := by
  have h1 := parts_join R hn
  have h2 : isClean (joinP R) = true := by
    rw [isClean_iff, h1, Bool.and_eq_true, decide_eq_true_eq, List.all_eq_true]
    exact ⟨hn, hl⟩
  have h3 := h2
  rw [isClean, Bool.and_eq_true, beq_iff_eq, beq_iff_eq] at h3
  refine ⟨h1, h2, Prod.ext h3.2 h3.1, by rw [depth_parts, h1], ?_⟩
  have := joinP_len R hn
  omega
theorem clean_same (l p : List UInt8) (h : cleanOf l = (p, 0)) : isClean l = (l == p) := by
  rw [isClean, h, Bool.eq_iff_iff, Bool.and_eq_true, beq_iff_eq, beq_iff_eq, beq_iff_eq]
  exact ⟨fun h => h.2.symm, fun h => ⟨rfl, h.symm⟩⟩

theorem join_row (R : List (List UInt8)) (n : List UInt8) (hn : ∀ y ∈ R, isName y = true) (hl : R.length ≤ 32) :
    (isName n = false → joinOf (joinP R) n = ([], 31)) ∧ (isName n = true → R.length = 32 → joinOf (joinP R) n = ([], 33)) ∧ (isName n = true → R.length < 32 → joinOf (joinP R) n = (joinP (R ++ [n]), 0)) := by
  obtain ⟨h1, h2, h3, h4, h5⟩ := row_clean R hn hl
  refine ⟨fun h => ?_, fun h hr => ?_, fun h hr => ?_⟩
  · rw [joinOf, if_pos (.inr h)]
  · rw [joinOf, if_neg (by rw [h2, h]; simp), h4, if_pos (by omega)]
  · rw [joinOf, if_neg (by rw [h2, h]; simp), h4, if_neg (by omega), join_more]
    by_cases hR : R = []
    · subst hR
      rw [if_pos rfl, if_pos (show joinP [] = [] from rfl)]
    · rw [if_neg hR, if_neg]
      intro e
      rw [e] at h1
      exact hR h1.symm
theorem split_row (I : List (List UInt8)) (x : List UInt8) (hn : ∀ y ∈ I ++ [x], isName y = true) (hl : (I ++ [x]).length ≤ 32) : splitOf (joinP (I ++ [x])) = (joinP I, x, 0) := by
  obtain ⟨h1, h2, h3, h4, h5⟩ := row_clean (I ++ [x]) hn hl
  rw [splitOf, h2, if_neg (by simp), if_neg, h1, List.dropLast_concat, List.getLastD_concat]
  intro e
  rw [e] at h1
  exact absurd h1 (by rw [show partsOf [] = [] from rfl]; simp)
end Go.Proofs.Ythloacakomahaaa

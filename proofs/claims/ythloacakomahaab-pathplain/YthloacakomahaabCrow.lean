/-
  What PathPlain asks of Match, of a clean path.
-/
import Derived.Test.YthloacakomahaabPclean
import Derived.Test.YthloacakomahaabPlainp
import Derived.Test.YthloacakomahaabKnown
import Derived.Test.YthloacakomahaabSpec
namespace Go.Proofs.Ythloacakomahaab
set_option linter.unusedVariables false
set_option linter.unusedSimpArgs false

theorem clean_row (l p : List UInt8) (h : cleanOf l = (p, 0)) : ∃ R, (∀ y ∈ R, isName y = true) ∧ R.length ≤ 32 ∧ joinP R = p := by
  rw [cleanOf] at h
  split at h
  · cases h
  · split at h
    · rename_i e he
      cases h
      exfalso
      have : ∀ (xs row : List (List UInt8)), foldC row xs ≠ .error 0 := by
        intro xs
        induction xs with
        | nil => intro row h; cases h
        | cons x xs ih =>
          intro row h
          rw [foldC] at h
          cases hs : stepC row x with
          | ok r => rw [hs] at h; exact ih r h
          | error e =>
            rw [hs] at h
            cases h
            rw [stepC] at hs
            split at hs
            · cases hs
            · split at hs
              · split at hs
                · cases hs
                · cases hs
              · split at hs
                · cases hs
                · cases hs
      exact this _ _ he
    · rename_i row he
      split at h
      · cases h
      · rename_i h32
        cases h
        exact ⟨row, foldC_names _ _ _ he (fun y h => by cases h), by omega, rfl⟩


def starsOf (n : Nat) : List UInt8 := joinP (List.replicate n [42])

theorem stars_name : ∀ (n : Nat), ∀ y ∈ List.replicate n ([42] : List UInt8), isName y = true := fun n y h => by
  rw [(List.mem_replicate.1 h).2]
  decide +kernel
theorem stars_parts (n : Nat) : partsOf (starsOf n) = List.replicate n [42] := parts_join _ (stars_name n)
theorem stars_more (n : Nat) : starsOf (n + 1) = if n = 0 then [42] else starsOf n ++ [47, 42] := by
  rw [starsOf, List.replicate_succ', join_more]
  cases n with
  | zero => rfl
  | succ n => rw [if_neg (by simp [List.replicate_succ]), if_neg (by omega)]; rfl
theorem stars_len : ∀ n, (starsOf n).length ≤ n * 2
  | 0 => by decide
  | n + 1 => by
    have := stars_len n
    rw [stars_more]
    split
    · simp; omega
    · rw [List.length_append]; simp; omega
theorem star_good : badPart [42] = false := by
  rw [badPart, contains_short [42] (by decide) (by decide)]
  rfl

theorem plain_facts (l p : List UInt8) (h : cleanOf l = (p, 0)) :
    (partsOf p).length ≤ 32 ∧ p.length ≤ 2080 ∧ matchOf [42, 42] p = (true, 0) ∧ matchOf (starsOf (partsOf p).length) p = (true, 0) ∧ (p ≠ [] → matchOf (starsOf (partsOf p).length ++ [47, 42]) p = (false, 0)) ∧
      ∀ pat, anySp pat = false → (matchOf pat p).2 = 0 → (matchOf pat p).1 = (pat == p) := by
  obtain ⟨R, hn, hl, rfl⟩ := clean_row l p h
  have h1 := parts_join R hn
  have h2 : isClean (joinP R) = true := by
    rw [isClean_iff, h1, Bool.and_eq_true, decide_eq_true_eq, List.all_eq_true]
    exact ⟨hn, hl⟩
  have h3 : (joinP R).length ≤ 2080 := by
    have := joinP_len R hn
    omega
  have hst : ∀ n, n ≤ 33 → matchOf (starsOf n) (joinP R) = (decide (n = R.length), 0) := fun n hn' => by
    have := stars_len n
    rw [matchOf, if_neg (by omega), stars_parts, if_neg, h2, if_neg (by simp), h1, match_stars]
    rw [Bool.not_eq_true, List.any_eq_false]
    intro x hx
    rw [(List.mem_replicate.1 hx).2, star_good]
    simp
  rw [h1]
  refine ⟨hl, h3, ?_, ?_, fun hp => ?_, fun pat hsp he => ?_⟩
  · rw [matchOf, if_neg (by simp; omega), show partsOf [42, 42] = [[42, 42]] from rfl, if_neg (by decide +kernel), h2, if_neg (by simp), match_all]
  · rw [hst _ (by omega), decide_eq_true rfl]
  · have hR : R.length ≠ 0 := fun e => hp (by rw [List.length_eq_zero_iff.1 e]; rfl)
    have := hst (R.length + 1) (by omega)
    rw [stars_more, if_neg hR] at this
    rw [this, decide_eq_false (by omega)]
  · rw [matchOf] at he ⊢
    split at he
    · cases he
    · rename_i c1
      split at he
      · cases he
      · rename_i c2
        rw [if_neg c1, if_neg c2, h2, if_neg (by simp)]
        have hpl : Plain pat := fun b hb => by
          have := List.any_eq_false.1 hsp b hb
          simp at this
          exact this
        have hpp : ∀ x ∈ partsOf pat, Plain x := fun x hx => by
          rw [partsOf] at hx
          split at hx
          · cases hx
          · exact plain_parts hpl x hx
        show matchParts (partsOf pat) (partsOf (joinP R)) = _
        rw [match_plain _ hpp, Bool.eq_iff_iff, beq_iff_eq, beq_iff_eq]
        refine ⟨fun e => ?_, fun e => by rw [e]⟩
        have := congrArg joinP e
        rwa [join_parts, join_parts] at this
end Go.Proofs.Ythloacakomahaab

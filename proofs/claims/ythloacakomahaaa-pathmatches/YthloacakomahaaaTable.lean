/-
  The table of the reference's goes, and what there is to find.
-/
import Derived.Test.YthloacakomahaaaGreedy
namespace Go.Proofs.Ythloacakomahaaa
set_option linter.unusedVariables false

/-- One row of the table, out of the one before. -/
def rowG (lo : Nat → Bool) (ta : Nat → Nat → Bool) (i : Nat) (p : Nat → Bool) : Nat → Bool
  | 0 => lo i && p 0
  | k + 1 => if lo i = true then p (k + 1) || rowG lo ta i p k else p k && ta i k
/-- Whether the first marks take so many of the row. -/
def tabG (lo : Nat → Bool) (ta : Nat → Nat → Bool) : Nat → Nat → Bool
  | 0, k => k == 0
  | i + 1, k => rowG lo ta i (tabG lo ta i) k

variable {lo : Nat → Bool} {ta : Nat → Nat → Bool} {M R : Nat}

theorem row_loose {i : Nat} {p : Nat → Bool} (h : lo i = true) : ∀ k, rowG lo ta i p k = true ↔ ∃ k', k' ≤ k ∧ p k' = true
  | 0 => by
    rw [rowG, h, Bool.true_and]
    refine ⟨fun e => ⟨0, Nat.le_refl _, e⟩, fun ⟨k', e1, e2⟩ => ?_⟩
    obtain rfl : k' = 0 := by omega
    exact e2
  | k + 1 => by
    rw [rowG, if_pos h, Bool.or_eq_true, row_loose h k]
    refine ⟨fun e => ?_, fun ⟨k', e1, e2⟩ => ?_⟩
    · rcases e with e | ⟨k', e1, e2⟩
      · exact ⟨k + 1, Nat.le_refl _, e⟩
      · exact ⟨k', by omega, e2⟩
    · by_cases e : k' = k + 1
      · exact .inl (e ▸ e2)
      · exact .inr ⟨k', by omega, e2⟩
theorem row_tight {i : Nat} {p : Nat → Bool} (h : lo i = false) (k : Nat) : rowG lo ta i p k = true ↔ ∃ k', k = k' + 1 ∧ p k' = true ∧ ta i k' = true := by
  cases k with
  | zero =>
    rw [rowG, h]
    exact ⟨fun e => (by cases e), fun ⟨k', e, _⟩ => by omega⟩
  | succ k =>
    rw [rowG, if_neg (by rw [h]; simp), Bool.and_eq_true]
    refine ⟨fun e => ⟨k, rfl, e⟩, fun ⟨k', e1, e2⟩ => ?_⟩
    obtain rfl : k' = k := by omega
    exact e2

theorem tab_fits : ∀ (m k : Nat), m ≤ M → k ≤ R → tabG lo ta m k = true → Fits lo ta M R m k → Fits lo ta M R 0 0
  | 0, k, _, _, h, hf => by
    obtain rfl : k = 0 := by simpa [tabG] using h
    exact hf
  | m + 1, k, hm, hk, h, hf => by
    rw [tabG] at h
    cases hl : lo m with
    | true =>
      obtain ⟨k', e1, e2⟩ := (row_loose hl k).1 h
      exact tab_fits m k' (by omega) (by omega) e2 (.loose _ _ k (by omega) hl e1 hk hf)
    | false =>
      obtain ⟨k', rfl, e2, e3⟩ := (row_tight hl k).1 h
      exact tab_fits m k' (by omega) (by omega) e2 (.takes _ _ (by omega) (by omega) hl e3 hf)

theorem fits_tab (h : Fits lo ta M R 0 0) : ∀ m, m ≤ M → ∃ k, k ≤ R ∧ tabG lo ta m k = true ∧ Fits lo ta M R m k
  | 0, _ => ⟨0, Nat.zero_le _, rfl, h⟩
  | m + 1, hm => by
    obtain ⟨k, e1, e2, hf⟩ := fits_tab h m (by omega)
    cases hf with
    | done => omega
    | loose _ _ k' g1 g2 g3 g4 hf => exact ⟨k', g4, by rw [tabG]; exact (row_loose g2 k').2 ⟨k, g3, e2⟩, hf⟩
    | takes _ _ g1 g2 g3 g4 hf => exact ⟨k + 1, g2, by rw [tabG]; exact (row_tight g3 _).2 ⟨k, rfl, e2, g4⟩, hf⟩

/-- The table's last place says what the search says. -/
theorem table (lo : Nat → Bool) (ta : Nat → Nat → Bool) (M R : Nat) : tabG lo ta M R = goesG lo ta M R := by
  rw [Bool.eq_iff_iff, goes_fits]
  refine ⟨fun h => tab_fits M R (Nat.le_refl _) (Nat.le_refl _) h .done, fun h => ?_⟩
  obtain ⟨k, e1, e2, hf⟩ := fits_tab h M (Nat.le_refl _)
  cases hf with
  | done => exact e2
  | loose _ _ _ g1 => omega
  | takes _ _ g1 => omega
end Go.Proofs.Ythloacakomahaaa

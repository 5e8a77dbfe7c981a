/-
  The search of path.goesThrough finds what there is to find.
-/
import Derived.Test.YthloacakomahaaaGoesw
namespace Go.Proofs.Ythloacakomahaaa
set_option linter.unusedVariables false

/-- Marks from m on take the row from k on, whole. -/
inductive Fits (lo : Nat → Bool) (ta : Nat → Nat → Bool) (M R : Nat) : Nat → Nat → Prop
  | done : Fits lo ta M R M R
  | loose (m k k' : Nat) : m < M → lo m = true → k ≤ k' → k' ≤ R → Fits lo ta M R (m + 1) k' → Fits lo ta M R m k
  | takes (m k : Nat) : m < M → k < R → lo m = false → ta m k = true → Fits lo ta M R (m + 1) (k + 1) → Fits lo ta M R m k

variable {lo : Nat → Bool} {ta : Nat → Nat → Bool} {M R : Nat}

theorem runG_runs : ∀ (n m k a f : Nat) (c : Bool), runG lo ta M R n m k a f = some c → Runs lo ta M R m k a f c
  | 0, _, _, _, _, _, h => by cases h
  | n + 1, m, k, a, f, c, h => by
    rw [runG] at h
    by_cases c1 : ¬ m < M ∧ ¬ k < R
    · rw [if_pos c1] at h
      cases h
      exact .stop _ _ _ _ c1.1 c1.2
    rw [if_neg c1] at h
    by_cases c2 : m < M ∧ lo m = true
    · rw [if_pos c2] at h
      exact .loose _ _ _ _ _ c2.1 c2.2 (runG_runs n _ _ _ _ _ h)
    rw [if_neg c2] at h
    have l2 : m < M → lo m = false := fun e => by
      cases hl : lo m with
      | false => rfl
      | true => exact absurd ⟨e, hl⟩ c2
    by_cases c3 : m < M ∧ k < R ∧ ta m k = true
    · rw [if_pos c3] at h
      exact .takes _ _ _ _ _ c3.1 c3.2.1 (l2 c3.1) c3.2.2 (runG_runs n _ _ _ _ _ h)
    rw [if_neg c3] at h
    have l3 : m < M → k < R → ta m k = false := fun e e' => by
      cases hl : ta m k with
      | false => rfl
      | true => exact absurd ⟨e, e', hl⟩ c3
    by_cases c4 : f < R
    · rw [if_pos c4] at h
      exact .again _ _ _ _ _ (by omega) l2 l3 c4 (runG_runs n _ _ _ _ _ h)
    · rw [if_neg c4] at h
      cases h
      exact .fail _ _ _ _ (by omega) l2 l3 c4

/-- Where marks that are not loose fit, they take one element each. -/
theorem fits_skip : ∀ (d a f : Nat), Fits lo ta M R a f → (∀ i, a ≤ i → i < a + d → lo i = false) → a + d ≤ M → f + d ≤ R ∧ Fits lo ta M R (a + d) (f + d)
  | 0, a, f, h, _, _ => ⟨by cases h <;> omega, h⟩
  | d + 1, a, f, h, hl, hM => by
    have h0 := hl a (Nat.le_refl _) (by omega)
    cases h with
    | done => omega
    | loose _ _ k' h1 h2 => rw [h0] at h2; cases h2
    | takes _ _ h1 h2 h3 h4 h5 =>
      obtain ⟨e1, e2⟩ := fits_skip d (a + 1) (f + 1) h5 (fun i h6 h7 => hl i (by omega) (by omega)) (by omega)
      exact ⟨by omega, by rwa [show a + (d + 1) = a + 1 + d by omega, show f + (d + 1) = f + 1 + d by omega]⟩

theorem runs_fits {m k a f : Nat} {b : Bool} (h : Runs lo ta M R m k a f b) : a ≤ m → m ≤ M → k ≤ R → f ≤ R → (f = R ∨ (k = f + (m - a) ∧ ∀ i, a ≤ i → i < m → lo i = false)) →
    (b = true ↔ Fits lo ta M R m k ∨ ∃ f', f < f' ∧ f' ≤ R ∧ Fits lo ta M R a f') := by
  have none : ∀ m k, (m < M ∨ k < R) → (m < M → lo m = false) → (m < M → k < R → ta m k = false) → ¬ Fits lo ta M R m k := fun m k h1 h2 h3 hf => by
    cases hf with
    | done => omega
    | loose _ _ k' e1 e2 => rw [h2 e1] at e2; cases e2
    | takes _ _ e1 e2 e3 e4 => rw [h3 e1 e2] at e4; cases e4
  induction h with
  | stop m k a f h1 h2 =>
    intro i1 i2 i3 i4 i5
    obtain rfl : m = M := by omega
    obtain rfl : k = R := by omega
    exact ⟨fun _ => .inl .done, fun _ => rfl⟩
  | loose m k a f b h1 h2 _ ih =>
    intro i1 i2 i3 i4 i5
    refine (ih (Nat.le_refl _) (by omega) i3 i3 (.inr ⟨by omega, fun i e1 e2 => by omega⟩)).trans ⟨fun h => ?_, fun h => ?_⟩
    · rcases h with h | ⟨f', e1, e2, h⟩
      · exact .inl (.loose _ _ k h1 h2 (Nat.le_refl _) i3 h)
      · exact .inl (.loose _ _ f' h1 h2 (by omega) e2 h)
    · have key : ∃ k', k ≤ k' ∧ Fits lo ta M R m k' := by
        rcases h with h | ⟨f', e1, e2, h⟩
        · exact ⟨k, Nat.le_refl _, h⟩
        · rcases i5 with i5 | ⟨i5, i6⟩
          · omega
          · obtain ⟨g1, g2⟩ := fits_skip (m - a) a f' h (fun i e3 e4 => i6 i e3 (by omega)) (by omega)
            exact ⟨f' + (m - a), by omega, by rwa [show a + (m - a) = m by omega] at g2⟩
      obtain ⟨k', e1, h⟩ := key
      cases h with
      | done => omega
      | loose _ _ k2 _ _ e2 e3 h =>
        by_cases e : k2 = k
        · exact .inl (e ▸ h)
        · exact .inr ⟨k2, by omega, e3, h⟩
      | takes _ _ _ _ e2 => rw [h2] at e2; cases e2
  | takes m k a f b h1 h2 h3 h4 _ ih =>
    intro i1 i2 i3 i4 i5
    refine (ih (by omega) (by omega) (by omega) i4 ?_).trans (or_congr ⟨fun h => .takes _ _ h1 h2 h3 h4 h, fun h => ?_⟩ Iff.rfl)
    · rcases i5 with i5 | ⟨i5, i6⟩
      · exact .inl i5
      · refine .inr ⟨by omega, fun i e1 e2 => ?_⟩
        by_cases e : i = m
        · exact e ▸ h3
        · exact i6 i e1 (by omega)
    · cases h with
      | done => omega
      | loose _ _ _ _ e => rw [h3] at e; cases e
      | takes _ _ _ _ _ _ h => exact h
  | again m k a f b h1 h2 h3 h4 _ ih =>
    intro i1 i2 i3 i4 i5
    refine (ih (Nat.le_refl _) (by omega) (by omega) (by omega) (.inr ⟨by omega, fun i e1 e2 => by omega⟩)).trans ⟨fun h => ?_, fun h => ?_⟩
    · rcases h with h | ⟨f', e1, e2, h⟩
      · exact .inr ⟨f + 1, by omega, by omega, h⟩
      · exact .inr ⟨f', by omega, e2, h⟩
    · rcases h with h | ⟨f', e1, e2, h⟩
      · exact absurd h (none m k h1 h2 h3)
      · by_cases e : f' = f + 1
        · exact .inl (e ▸ h)
        · exact .inr ⟨f', by omega, e2, h⟩
  | fail m k a f h1 h2 h3 h4 =>
    intro i1 i2 i3 i4 i5
    refine ⟨(fun h => by cases h), fun h => ?_⟩
    rcases h with h | ⟨f', e1, e2, h⟩
    · exact absurd h (none m k h1 h2 h3)
    · omega

theorem goes_fits (lo : Nat → Bool) (ta : Nat → Nat → Bool) (M R : Nat) : goesG lo ta M R = true ↔ Fits lo ta M R 0 0 := by
  obtain ⟨c, hc⟩ := runG_total lo ta M R (leftG M R 0 0 R + 1) 0 0 0 R (Nat.le_refl _) (Nat.zero_le _) (Nat.zero_le _) (Nat.le_refl _) (by omega)
  rw [goesG, hc]
  refine (runs_fits (runG_runs _ _ _ _ _ _ hc) (Nat.le_refl _) (Nat.zero_le _) (Nat.zero_le _) (Nat.le_refl _) (.inl rfl)).trans ⟨fun h => ?_, .inl⟩
  rcases h with h | ⟨f', e1, e2, _⟩
  · exact h
  · omega

/-- Where no mark is loose. -/
theorem fits_plain (hl : ∀ i, i < M → lo i = false) : ∀ (d m k : Nat), m + d = M → (Fits lo ta M R m k ↔ k + d = R ∧ ∀ i, i < d → ta (m + i) (k + i) = true)
  | 0, m, k, hm => by
    refine ⟨fun h => ?_, fun ⟨h, _⟩ => ?_⟩
    · cases h <;> first | omega | exact ⟨rfl, fun i hi => by omega⟩
    · obtain rfl : m = M := by omega
      obtain rfl : k = R := by omega
      exact .done
  | d + 1, m, k, hm => by
    have ih := fits_plain hl d (m + 1) (k + 1) (by omega)
    have h0 := hl m (by omega)
    refine ⟨fun h => ?_, fun ⟨h1, h2⟩ => ?_⟩
    · cases h with
      | done => omega
      | loose _ _ _ _ e => rw [h0] at e; cases e
      | takes _ _ e1 e2 e3 e4 h =>
        obtain ⟨g1, g2⟩ := ih.1 h
        refine ⟨by omega, fun i hi => ?_⟩
        cases i with
        | zero => exact e4
        | succ i =>
          have := g2 i (by omega)
          rwa [show m + 1 + i = m + (i + 1) by omega, show k + 1 + i = k + (i + 1) by omega] at this
    · refine .takes _ _ (by omega) (by omega) h0 (h2 0 (by omega)) (ih.2 ⟨by omega, fun i hi => ?_⟩)
      have := h2 (i + 1) (by omega)
      rwa [show m + (i + 1) = m + 1 + i by omega, show k + (i + 1) = k + 1 + i by omega] at this

theorem goes_plain (lo : Nat → Bool) (ta : Nat → Nat → Bool) (M R : Nat) (hl : ∀ i, i < M → lo i = false) : goesG lo ta M R = true ↔ M = R ∧ ∀ i, i < M → ta i i = true := by
  refine (goes_fits lo ta M R).trans ((fits_plain hl M 0 0 (by omega)).trans ?_)
  simp

/-- One loose mark takes whatever there is. -/
theorem goes_loose (lo : Nat → Bool) (ta : Nat → Nat → Bool) (R : Nat) (h : lo 0 = true) : goesG lo ta 1 R = true :=
  (goes_fits lo ta 1 R).2 (.loose _ _ R (by omega) h (Nat.zero_le _) (Nat.le_refl _) .done)
end Go.Proofs.Ythloacakomahaaa

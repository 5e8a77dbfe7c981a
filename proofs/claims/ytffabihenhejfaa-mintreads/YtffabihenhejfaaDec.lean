/-
  Bytes that are a form, and bytes that are none.
-/
import Derived.Test.YtffabihenhejfaaLead
namespace Go.Proofs.Ytffabihenhejfaa
open Go.RowKit
set_option linter.unusedVariables false

theorem be_of (n : Nat) : ∀ ds : List Int, ds.length = n → (∀ x ∈ ds, 0 ≤ x ∧ x ≤ 255) → ∃ u : Int, 0 ≤ u ∧ u < (256 : Int) ^ n ∧ ds = Mth.be n u := by
  induction n with
  | zero =>
    intro ds hl _
    refine ⟨0, Int.le_refl _, by simp, ?_⟩
    rw [List.length_eq_zero_iff.1 hl]
    rfl
  | succ n ih =>
    intro ds hl hb
    have hne : ds ≠ [] := by intro e; rw [e] at hl; simp at hl
    have hsp := List.dropLast_concat_getLast hne
    obtain ⟨u, h0, h1, h2⟩ := ih ds.dropLast (by rw [List.length_dropLast, hl]; rfl) (fun x hx => hb x (List.dropLast_subset _ hx))
    have hd := hb (ds.getLast hne) (List.getLast_mem hne)
    refine ⟨u * 256 + ds.getLast hne, by omega, ?_, ?_⟩
    · rw [Int.pow_succ]
      omega
    · rw [be_snoc, show (u * 256 + ds.getLast hne) / 256 = u by omega, show (u * 256 + ds.getLast hne) % 256 = ds.getLast hne by omega, ← h2]
      exact hsp.symm

theorem fold_of (u : Int) (h0 : 0 ≤ u) (h1 : u < 18446744073709551616) : ∃ n : Int, -9223372036854775808 ≤ n ∧ n < 9223372036854775808 ∧ fold n = u := by
  by_cases h : u % 2 = 0
  · refine ⟨u / 2, by omega, by omega, ?_⟩
    unfold fold
    rw [if_neg (by omega)]
    omega
  · refine ⟨-(u / 2) - 1, by omega, by omega, ?_⟩
    unfold fold
    rw [if_pos (by omega)]
    omega

theorem pow256_le (K : Nat) (h : K ≤ 8) : (256 : Int) ^ K ≤ 18446744073709551616 := by
  have : K = 0 ∨ K = 1 ∨ K = 2 ∨ K = 3 ∨ K = 4 ∨ K = 5 ∨ K = 6 ∨ K = 7 ∨ K = 8 := by omega
  rcases this with rfl | rfl | rfl | rfl | rfl | rfl | rfl | rfl | rfl <;> decide

/-- The bytes begin with a form. -/
def IsForm (xs : List Int) : Prop := ∃ (u : Int) (rest : List Int), xs = Mth.form u ++ rest ∧ 0 ≤ u ∧ u < 18446744073709551616

/-- Bytes that do not begin with a form: why. -/
theorem no_form (xs : List Int) (hb : ∀ x ∈ xs, 0 ≤ x ∧ x ≤ 255) (h : ¬ IsForm xs) :
    xs = [] ∨ ∃ (K : Nat) (t : List Int), xs = (247 + (K : Int)) :: t ∧ 1 ≤ K ∧ K ≤ 8 ∧ (t.length < K ∨ ∃ (u : Int) (rest : List Int), t = Mth.be K u ++ rest ∧ 0 ≤ u ∧ u < (256 : Int) ^ K ∧ (u ≤ 247 ∨ Mth.sz u ≠ K)) := by
  cases xs with
  | nil => exact .inl rfl
  | cons x t =>
    right
    have hx := hb x List.mem_cons_self
    by_cases h1 : x ≤ 247
    · exact absurd ⟨x, t, by unfold Mth.form; rw [if_pos h1]; rfl, hx.1, by omega⟩ h
    · refine ⟨(x - 247).toNat, t, by rw [show ((x - 247).toNat : Int) = x - 247 by omega]; congr 1; omega, by omega, by omega, ?_⟩
      generalize hK : (x - 247).toNat = K
      have hxK : x = 247 + (K : Int) := by omega
      by_cases h2 : t.length < K
      · exact .inl h2
      · right
        obtain ⟨u, h3, h4, h5⟩ := be_of K (t.take K) (by rw [List.length_take]; omega) (fun y hy => hb y (List.mem_cons_of_mem _ (List.mem_of_mem_take hy)))
        refine ⟨u, t.drop K, by rw [← h5, List.take_append_drop], h3, h4, ?_⟩
        by_cases h6 : u ≤ 247
        · exact .inl h6
        · right
          intro h7
          refine h ⟨u, t.drop K, ?_, h3, Int.lt_of_lt_of_le h4 (pow256_le K (by omega))⟩
          unfold Mth.form
          rw [if_neg h6, h7, hxK, List.cons_append, ← h5, List.take_append_drop]
end Go.Proofs.Ytffabihenhejfaa

/-
  What is no number; the laws' own calls by contract.
-/
import Derived.Test.YthiopkndbicmkabDoorFc
import Derived.Test.YthiopkndbicmkabDoorCl
namespace Go.Proofs.YthiopkndbicmkabDoor
open Go.RowKit Ieee
set_option linter.unusedVariables false
set_option linter.unusedSimpArgs false

theorem neg_bits (a : Int) : Op.negFloat .f64 (bitsOf a) = bitsOf a ^^^ 9223372036854775808 := rfl

theorem nan_neg (a : Int) : nanB (Op.negFloat .f64 (bitsOf a)) = nanB (bitsOf a) := by
  rw [neg_bits]
  unfold nanB
  have h : (bitsOf a ^^^ 9223372036854775808) % 9223372036854775808 = bitsOf a % 9223372036854775808 := by
    have := Nat.xor_mod_two_pow (a := bitsOf a) (b := 9223372036854775808) (n := 63)
    rw [show (2 : Nat) ^ 63 = 9223372036854775808 from rfl, Nat.mod_self, Nat.xor_zero] at this
    exact this
  rw [h]

theorem L_fneg (a : Int) : oneL 42 a = wordOf (Op.negFloat .f64 (bitsOf a)) := by
  unfold oneL; rw [show oneV 42 a = (wordOf (Op.negFloat .f64 (bitsOf a)), 0) from rfl]; exact if_pos rfl
theorem L_froot (a : Int) : oneL 43 a = srW (bitsOf a) := by
  unfold oneL; rw [show oneV 43 a = (srW (bitsOf a), 0) from rfl]; exact if_pos rfl
theorem L_feq (a b : Int) : twoL 40 a b = oneW (feqB (bitsOf a) (bitsOf b)) := by
  unfold twoL; rw [show twoV 40 a b = (oneW (feqB (bitsOf a) (bitsOf b)), 0) from rfl]; exact if_pos rfl
theorem L_flt (a b : Int) : twoL 41 a b = oneW (fltB (bitsOf a) (bitsOf b)) := by
  unfold twoL; rw [show twoV 41 a b = (oneW (fltB (bitsOf a) (bitsOf b)), 0) from rfl]; exact if_pos rfl

theorem wd_none : Wd 9221120237041090560 := by constructor <;> decide

/-- A word that is no number. -/
theorem none_neg {a : Int} (h : nanB (bitsOf a) = true) : oneL 42 a = 9221120237041090560 := by
  rw [L_fneg]; unfold wordOf; rw [nan_neg, if_pos h]
theorem none_root {a : Int} (h : nanB (bitsOf a) = true) : oneL 43 a = 9221120237041090560 := by
  rw [L_froot]; unfold srW; rw [sqrt_none h]
theorem none_toi {a : Int} (ha : Wd a) (h : nanB (bitsOf a) = true) : oneV 45 a = (0, 6) := by
  refine (show oneV 45 a = tiV a from rfl).trans (toi_out a ha ?_)
  unfold cutIn
  rw [h]; rfl
theorem none_feq {a b : Int} (h : (nanB (bitsOf a) || nanB (bitsOf b)) = true) : twoL 40 a b = 0 ∧ twoL 41 a b = 0 := by
  rw [L_feq, L_flt]
  unfold feqB fltB
  cases h1 : nanB (bitsOf a)
  · rw [h1, Bool.false_or] at h
    rw [h]
    exact ⟨rfl, rfl⟩
  · exact ⟨rfl, rfl⟩

theorem xor_lt (x : Nat) (h : x < 18446744073709551616) : x ^^^ 9223372036854775808 < 18446744073709551616 := Nat.xor_lt_two_pow (n := 64) h (by decide)

theorem neg_neg {a : Int} (ha : Wd a) (h : nanB (bitsOf a) = false) : oneL 42 (oneL 42 a) = a ∧ Wd (oneL 42 a) := by
  have h1 : oneL 42 a = wrap64 ((bitsOf a ^^^ 9223372036854775808 : Nat) : Int) := by
    rw [L_fneg]; unfold wordOf; rw [nan_neg, h, if_neg Bool.false_ne_true, neg_bits]
  have hb : bitsOf (oneL 42 a) = bitsOf a ^^^ 9223372036854775808 := by rw [h1, bits_wrap _ (xor_lt _ (bitsOf_lt a))]
  constructor
  · rw [L_fneg]
    unfold wordOf
    have hn : nanB (bitsOf (oneL 42 a)) = false := by rw [hb, ← neg_bits, nan_neg, h]
    rw [nan_neg, hn, if_neg Bool.false_ne_true, neg_bits, hb, Nat.xor_assoc, Nat.xor_self, Nat.xor_zero, wrap_bits ha]
  · rw [h1]; exact wd_wrap _

theorem wd_fneg {a : Int} : Wd (oneL 42 a) := by
  rw [L_fneg]; unfold wordOf; split
  · exact wd_none
  · exact wd_wrap _

/-- A root is a number, or None of one below 0. -/
theorem root_num {a : Int} (h : nanB (bitsOf a) = false) : nanB (bitsOf (oneL 43 a)) = false ∨ (nanB (bitsOf (oneL 43 a)) = true ∧ oneL 43 a = 9221120237041090560 ∧ twoL 41 a 0 = 1) := by
  rw [L_froot]
  unfold srW
  cases hs : double.sqrt (bitsOf a) with
  | some r =>
    left
    have hl : r < 18446744073709551616 := Format.sqrt_lt double hs
    rw [bits_wrap r hl]
    exact sqrt_nan hs
  | none =>
    right
    refine ⟨by decide, rfl, ?_⟩
    rw [L_flt]
    have h0 : nanB (bitsOf 0) = false := by decide
    have hr0 : rankB (bitsOf 0) = 0 := by decide
    have key : rankB (bitsOf a) < 0 := by
      have hrun : rungB (bitsOf a) ≤ 9218868437227405312 := by simpa [nanB, rungB] using h
      unfold rankB
      have hs' : ((double.read (bitsOf a)).root 54).map double.write = none := hs
      by_cases c : rungB (bitsOf a) < 9218868437227405312
      · obtain ⟨m, e, rx, vx⟩ := read_num (bitsOf a) c
        rw [rx] at hs'
        by_cases m0 : m = 0
        · have : Datum.root 54 (.number (negB (bitsOf a)) m (-1074 + (e : Int))) = some (.number (negB (bitsOf a)) m (-1074 + (e : Int))) := by
            show (if m = 0 then _ else _) = _
            rw [if_pos m0]
          rw [this] at hs'
          cases hs'
        · cases hn : negB (bitsOf a)
          · rw [hn] at hs'
            have : Datum.root 54 (.number false m (-1074 + (e : Int))) ≠ none := by
              show (if m = 0 then _ else if false = true then _ else _) ≠ none
              rw [if_neg m0, if_neg Bool.false_ne_true]
              exact Option.some_ne_none _
            exact absurd (Option.map_eq_none_iff.1 hs') this
          · rw [if_pos rfl]
            have : rungB (bitsOf a) ≠ 0 := by
              intro hz
              rw [hz] at vx
              have hz2 : magB 0 = 0 := rfl
              rw [hz2] at vx
              have hp := Nat.two_pow_pos e
              rcases Nat.mul_eq_zero.1 vx with h | h
              · exact m0 h
              · omega
            omega
      · have hi : rungB (bitsOf a) = 9218868437227405312 := by omega
        rw [read_inf _ hi] at hs'
        cases hn : negB (bitsOf a)
        · rw [hn] at hs'; cases hs'
        · rw [if_pos rfl]; omega
    unfold fltB
    rw [h, h0, hr0, decide_eq_true key]
    rfl

/-- Sums of floats. -/
def fW (k : Nat) (a b : Int) : Int := faW (opF (36 + (k : Int))) (bitsOf a) (bitsOf b)
theorem fW_two (k : Nat) (hk : k < 4) (a b : Int) : twoV (36 + (k : Int)) a b = (fW k a b, 0) := by
  rcases (by omega : k = 0 ∨ k = 1 ∨ k = 2 ∨ k = 3) with rfl | rfl | rfl | rfl <;> rfl
theorem fW_nan (k : Nat) (a b : Int) : nanB (bitsOf (fW k a b)) = true → fW k a b = 9221120237041090560 := by
  unfold fW faW
  cases h : floatBits (opF (36 + (k : Int))) .f64 (bitsOf a) (bitsOf b) with
  | none => exact fun _ => rfl
  | some r =>
    intro hn
    have hl : r < 18446744073709551616 := by
      have := floatBits_wf h
      simp [Lit.wf] at this
      exact this
    have hn2 : nanB (bitsOf (wrap64 (r : Int))) = true := hn
    rw [bits_wrap r hl, floatBits_nan h] at hn2
    cases hn2
theorem fW_none (k : Nat) (a b : Int) (h : (nanB (bitsOf a) || nanB (bitsOf b)) = true) : fW k a b = 9221120237041090560 := by
  unfold fW faW
  rw [floatBits_none h]

theorem law_two_n (w : World) (hL : Laid w) (op a b : Int) (n : Nat) : Calls Tryd.prog 7 #[.int .i64 op, .int .i64 a, .int .i64 b] (w.drewN n) fun e w' => e = .returned (.int .i64 (twoL op a b)) ∧ ∃ q, w' = w.drewN q := by
  refine (law_two op a b (w.drewN n) (laid_drewN hL n)).mono ?_
  rintro e w' ⟨rfl, q, rfl⟩
  exact ⟨rfl, n + q, World.drewN_drewN ..⟩
theorem law_one_n (w : World) (hL : Laid w) (op a : Int) (ha : Wd a) (n : Nat) : Calls Tryd.prog 8 #[.int .i64 op, .int .i64 a] (w.drewN n) fun e w' => e = .returned (.int .i64 (oneL op a)) ∧ ∃ q, w' = w.drewN q := by
  refine (law_one op a ha (w.drewN n) (laid_drewN hL n)).mono ?_
  rintro e w' ⟨rfl, q, rfl⟩
  exact ⟨rfl, n + q, World.drewN_drewN ..⟩
theorem two_n (w : World) (hL : Laid w) (op a b : Int) (n : Nat) : Calls Tryd.prog 5 #[.int .i64 op, .int .i64 a, .int .i64 b] (w.drewN n) fun e w' => e = .returned (.tuple #[.int .i64 (twoV op a b).1, .int .i64 (twoV op a b).2]) ∧ ∃ q, w' = w.drewN q := by
  refine Calls.mono (two_any op a b (w.drewN n) (laid_drewN hL n)) ?_
  rintro e w' ⟨rfl, q, rfl⟩
  exact ⟨rfl, n + q, World.drewN_drewN ..⟩
theorem one_n (w : World) (hL : Laid w) (op a : Int) (ha : Wd a) (n : Nat) : Calls Tryd.prog 9 #[.int .i64 op, .int .i64 a] (w.drewN n) fun e w' => e = .returned (.tuple #[.int .i64 (oneV op a).1, .int .i64 (oneV op a).2]) ∧ ∃ q, w' = w.drewN q := by
  refine Calls.mono (one_any op a ha (w.drewN n) (laid_drewN hL n)) ?_
  rintro e w' ⟨rfl, q, rfl⟩
  exact ⟨rfl, n + q, World.drewN_drewN ..⟩
theorem nan_n (w : World) (a : Int) (n : Nat) : Calls Tryd.prog 6 #[.int .i64 a] (w.drewN n) fun e w' => e = .returned (.bool (nanB (bitsOf a))) ∧ ∃ q, w' = w.drewN q := by
  refine (nan_any a (w.drewN n)).mono ?_
  rintro e w' ⟨rfl, rfl⟩
  rw [nanW_eq]
  exact ⟨rfl, n, rfl⟩
end Go.Proofs.YthiopkndbicmkabDoor

/-
  The float nearest to a whole number, by its highest bits.
-/
import Derived.Test.YthiopkndbicmkaaDoorFe
namespace Go.Proofs.YthiopkndbicmkaaDoor
open Go.RowKit Ieee
set_option linter.unusedVariables false
set_option linter.unusedSimpArgs false

/-- A sign's weight. -/
def sgW (neg : Bool) : Int := if neg then -9223372036854775808 else 0
def sgN (neg : Bool) : Nat := if neg then 1 else 0

theorem bits_sg (neg : Bool) (y : Nat) (h : y < 9223372036854775808) : bitsOf (sgW neg + y) = 9223372036854775808 * sgN neg + y := by
  rw [bitsOf_eq]
  cases neg
  · show ((0 + (y : Int)) % 18446744073709551616).toNat = 9223372036854775808 * 0 + y; omega
  · show ((-9223372036854775808 + (y : Int)) % 18446744073709551616).toNat = 9223372036854775808 * 1 + y; omega

theorem wrap_sg (neg : Bool) (y : Nat) (h : y < 9223372036854775808) : wrap64 ((9223372036854775808 * sgN neg + y : Nat) : Int) = sgW neg + y := by
  cases neg
  · show wrap64 ((9223372036854775808 * 0 + y : Nat) : Int) = 0 + (y : Int); unfold wrap64; omega
  · show wrap64 ((9223372036854775808 * 1 + y : Nat) : Int) = -9223372036854775808 + (y : Int); unfold wrap64; omega

theorem or_sign (neg : Bool) (y : Nat) (h : y < 9223372036854775808) : bits .or .i64 (sgW neg) (y : Int) = sgW neg + y := by
  have h1 := bits_sg neg 0 (by omega)
  have h2 : bitsOf (y : Int) = y := by rw [bitsOf_eq]; omega
  rw [show sgW neg + ((0 : Nat) : Int) = sgW neg by omega, Nat.add_zero] at h1
  have h3 := Nat.two_pow_add_eq_or_of_lt (i := 63) h (sgN neg)
  rw [show (2 : Nat) ^ 63 = 9223372036854775808 from rfl] at h3
  rw [bits_or, h1, h2, ← h3, wrap_sg neg y h]

theorem or_low (neg : Bool) (P m : Nat) (hP : P < 2048) (hm : m < 4503599627370496) : bits .or .i64 (sgW neg + ((P * 4503599627370496 : Nat) : Int)) (m : Int) = sgW neg + ((P * 4503599627370496 + m : Nat) : Int) := by
  have h1 := bits_sg neg (P * 4503599627370496) (by omega)
  have h2 : bitsOf (m : Int) = m := by rw [bitsOf_eq]; omega
  have h3 := Nat.two_pow_add_eq_or_of_lt (i := 52) hm (sgN neg * 2048 + P)
  rw [show (2 : Nat) ^ 52 = 4503599627370496 from rfl] at h3
  rw [bits_or, h1, h2, show 9223372036854775808 * sgN neg + P * 4503599627370496 = 4503599627370496 * (sgN neg * 2048 + P) by omega, ← h3, show 4503599627370496 * (sgN neg * 2048 + P) + m = 9223372036854775808 * sgN neg + (P * 4503599627370496 + m) by omega, wrap_sg neg _ (by omega)]

theorem word_sg (neg : Bool) (r : Nat) (h : r < 9223372036854775808) : wrap64 ((double.word neg r : Nat) : Int) = sgW neg + r := by
  have h1 : double.word neg r = 9223372036854775808 * sgN neg + r := by
    unfold Format.word
    have : double.signWeight = 9223372036854775808 := rfl
    rw [this]
    cases neg
    · show r = 9223372036854775808 * 0 + r; omega
    · show 9223372036854775808 + r = 9223372036854775808 * 1 + r; omega
  rw [h1, wrap_sg neg r h]

/-- A number's float, where its bits fit. -/
theorem near_low (neg : Bool) (u : Nat) (h0 : u ≠ 0) (hl : u.log2 ≤ 52) : wrap64 ((double.nearest neg u 0 : Nat) : Int) = sgW neg + (((1023 + u.log2) * 4503599627370496 + u * 2 ^ (52 - u.log2) % 4503599627370496 : Nat) : Int) ∧ 4503599627370496 ≤ u * 2 ^ (52 - u.log2) ∧ u * 2 ^ (52 - u.log2) < 9007199254740992 := by
  obtain ⟨l1, l2⟩ := (Nat.log2_eq_iff h0).1 rfl
  have m1 : 4503599627370496 ≤ u * 2 ^ (52 - u.log2) := by
    have := Nat.mul_le_mul_right (2 ^ (52 - u.log2)) l1
    rw [← Nat.pow_add, show u.log2 + (52 - u.log2) = 52 by omega] at this
    exact this
  have m2 : u * 2 ^ (52 - u.log2) < 9007199254740992 := by
    have := Nat.mul_lt_mul_of_pos_right l2 (Nat.two_pow_pos (52 - u.log2))
    rw [← Nat.pow_add, show u.log2 + 1 + (52 - u.log2) = 53 by omega] at this
    exact this
  refine ⟨?_, m1, m2⟩
  rw [nearest_eq neg u 0 h0]
  have e1 : max (0 + (u.log2 : Int) - 52) (-1074) = (u.log2 : Int) - 52 := by omega
  rw [e1, show (0 - ((u.log2 : Int) - 52)).toNat = 52 - u.log2 by omega, show ((u.log2 : Int) - 52 - 0).toNat = 0 by omega, cut_even0, show ((u.log2 : Int) - 52 - -1074).toNat = u.log2 + 1022 by omega, Nat.shiftLeft_eq]
  generalize u * 2 ^ (52 - u.log2) = M at *
  rw [Nat.min_eq_left (by omega), word_sg neg _ (by omega)]
  have : M % 4503599627370496 = M - 4503599627370496 := by omega
  rw [this]
  omega

/-- Rounded up? -/
def upB (u c : Nat) : Bool := decide (2 ^ (c - 1) < u % 2 ^ c) || (u % 2 ^ c == 2 ^ (c - 1) && u / 2 ^ c % 2 == 1)
def topM (u c : Nat) : Nat := u / 2 ^ c + (upB u c).toNat

theorem near_high (neg : Bool) (u : Nat) (h0 : u ≠ 0) (hu : u < 18446744073709551616) (hl : 52 < u.log2) : wrap64 ((double.nearest neg u 0 : Nat) : Int) = sgW neg + (((1022 + u.log2) * 4503599627370496 + topM u (u.log2 - 52) : Nat) : Int) ∧ 4503599627370496 ≤ u / 2 ^ (u.log2 - 52) ∧ u / 2 ^ (u.log2 - 52) < 9007199254740992 ∧ u.log2 ≤ 63 := by
  obtain ⟨l1, l2⟩ := (Nat.log2_eq_iff h0).1 rfl
  have hl63 : u.log2 ≤ 63 := by
    have := (Nat.log2_lt h0 (k := 64)).2 hu
    omega
  have m1 : 4503599627370496 ≤ u / 2 ^ (u.log2 - 52) := by
    rw [Nat.le_div_iff_mul_le (Nat.two_pow_pos _)]
    have : 4503599627370496 * 2 ^ (u.log2 - 52) = 2 ^ u.log2 := by
      rw [show (4503599627370496 : Nat) = 2 ^ 52 from rfl, ← Nat.pow_add, show 52 + (u.log2 - 52) = u.log2 by omega]
    omega
  have m2 : u / 2 ^ (u.log2 - 52) < 9007199254740992 := by
    rw [Nat.div_lt_iff_lt_mul (Nat.two_pow_pos _)]
    have : 9007199254740992 * 2 ^ (u.log2 - 52) = 2 ^ (u.log2 + 1) := by
      rw [show (9007199254740992 : Nat) = 2 ^ 53 from rfl, ← Nat.pow_add, show 53 + (u.log2 - 52) = u.log2 + 1 by omega]
    omega
  refine ⟨?_, m1, m2, hl63⟩
  rw [nearest_eq neg u 0 h0]
  have e1 : max (0 + (u.log2 : Int) - 52) (-1074) = (u.log2 : Int) - 52 := by omega
  rw [e1, show (0 - ((u.log2 : Int) - 52)).toNat = 0 by omega, show ((u.log2 : Int) - 52 - 0).toNat = u.log2 - 52 by omega, show ((u.log2 : Int) - 52 - -1074).toNat = u.log2 + 1022 by omega, Nat.shiftLeft_zero, cut_even, Nat.min_eq_left (show u.log2 - 52 ≤ u.log2 + 2 by omega)]
  have hup : (decide (2 ^ (u.log2 - 52) < 2 * (u % 2 ^ (u.log2 - 52))) || (2 ^ (u.log2 - 52) == 2 * (u % 2 ^ (u.log2 - 52)) && u / 2 ^ (u.log2 - 52) % 2 == 1)) = upB u (u.log2 - 52) := by
    unfold upB
    have e : 2 ^ (u.log2 - 52) = 2 * 2 ^ (u.log2 - 52 - 1) := by
      rw [Nat.mul_comm, ← Nat.pow_succ]; congr 1; omega
    have d1 : decide (2 ^ (u.log2 - 52) < 2 * (u % 2 ^ (u.log2 - 52))) = decide (2 ^ (u.log2 - 52 - 1) < u % 2 ^ (u.log2 - 52)) := decide_eq_decide.2 (by omega)
    have d2 : (2 ^ (u.log2 - 52) == 2 * (u % 2 ^ (u.log2 - 52))) = (u % 2 ^ (u.log2 - 52) == 2 ^ (u.log2 - 52 - 1)) := by
      rw [Bool.eq_iff_iff, beq_iff_eq, beq_iff_eq]; omega
    rw [d1, d2]
  rw [hup]
  have ht : topM u (u.log2 - 52) ≤ 9007199254740992 := by
    unfold topM
    cases upB u (u.log2 - 52)
    · show _ + 0 ≤ _; omega
    · show _ + 1 ≤ _; omega
  show wrap64 ((double.word neg (min ((u.log2 + 1022) * 4503599627370496 + topM u (u.log2 - 52)) 9218868437227405312) : Nat) : Int) = _
  generalize topM u (u.log2 - 52) = tm at *
  rw [Nat.min_eq_left (by omega), word_sg neg _ (by omega), show u.log2 + 1022 = 1022 + u.log2 by omega]
end Go.Proofs.YthiopkndbicmkaaDoor

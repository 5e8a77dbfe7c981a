/-
  Floats of whole numbers are exact.
-/
import Derived.Test.YthiopkndbicmkaaDoorFc
namespace Go.Proofs.YthiopkndbicmkaaDoor
open Go.RowKit Ieee
set_option linter.unusedVariables false
set_option linter.unusedSimpArgs false

theorem log2_scale (n k : Nat) (h : n ≠ 0) : (n * 2 ^ k).log2 = n.log2 + k := by
  have hp := Nat.two_pow_pos k
  have hn : n * 2 ^ k ≠ 0 := Nat.mul_ne_zero h (by omega)
  rw [Nat.log2_eq_iff hn]
  obtain ⟨h1, h2⟩ := (Nat.log2_eq_iff h).1 rfl
  constructor
  · rw [Nat.pow_add]; exact Nat.mul_le_mul_right _ h1
  · rw [show n.log2 + k + 1 = n.log2 + 1 + k by omega, Nat.pow_add]; exact Nat.mul_lt_mul_of_pos_right h2 hp

theorem cut_even (neg : Bool) (n drop : Nat) : Toward.even.cut neg n drop = n / 2 ^ min drop (n.log2 + 2) + (decide (2 ^ min drop (n.log2 + 2) < 2 * (n % 2 ^ min drop (n.log2 + 2))) || (2 ^ min drop (n.log2 + 2) == 2 * (n % 2 ^ min drop (n.log2 + 2)) && n / 2 ^ min drop (n.log2 + 2) % 2 == 1)).toNat := by
  show n / (1 <<< min drop (n.log2 + 2)) + (decide (1 <<< min drop (n.log2 + 2) < 2 * (n % (1 <<< min drop (n.log2 + 2)))) || (1 <<< min drop (n.log2 + 2) == 2 * (n % (1 <<< min drop (n.log2 + 2))) && n / (1 <<< min drop (n.log2 + 2)) % 2 == 1)).toNat = _
  rw [Nat.shiftLeft_eq, Nat.one_mul]

theorem cut_even0 (neg : Bool) (n : Nat) : Toward.even.cut neg n 0 = n := by
  rw [cut_even, Nat.min_eq_left (by omega), Nat.pow_zero, Nat.div_one, Nat.mod_one]
  simp

theorem cut_scale (neg : Bool) (n drop k : Nat) (h : n ≠ 0) : Toward.even.cut neg (n * 2 ^ k) (drop + k) = Toward.even.cut neg n drop := by
  rw [cut_even, cut_even, log2_scale n k h, show min (drop + k) (n.log2 + k + 2) = min drop (n.log2 + 2) + k by omega, Nat.pow_add]
  have hp := Nat.two_pow_pos k
  generalize 2 ^ min drop (n.log2 + 2) = G
  generalize 2 ^ k = K at *
  rw [Nat.mul_div_mul_right _ _ hp, Nat.mul_mod_mul_right]
  have e1 : decide (G * K < 2 * (n % G * K)) = decide (G < 2 * (n % G)) := by
    rw [← Nat.mul_assoc]
    exact decide_eq_decide.2 (Nat.mul_lt_mul_right hp)
  have e2 : (G * K == 2 * (n % G * K)) = (G == 2 * (n % G)) := by
    rw [← Nat.mul_assoc, Bool.eq_iff_iff, beq_iff_eq, beq_iff_eq]
    exact ⟨fun h => Nat.eq_of_mul_eq_mul_right hp h, fun h => by rw [← h]⟩
  rw [e1, e2]

theorem nearest_eq (neg : Bool) (n : Nat) (place : Int) (h : n ≠ 0) : double.nearest neg n place =
    double.word neg (min ((max (place + n.log2 - 52) (-1074) - -1074).toNat * 4503599627370496 + Toward.even.cut neg (n <<< (place - max (place + n.log2 - 52) (-1074)).toNat) (max (place + n.log2 - 52) (-1074) - place).toNat) 9218868437227405312) := by
  unfold Format.nearest
  rw [if_neg h]
  rfl

theorem nearest_zero (neg : Bool) (place : Int) : double.nearest neg 0 place = double.word neg 0 := by
  unfold Format.nearest
  rw [if_pos rfl]

theorem nearest_scale (neg : Bool) (n k : Nat) (place : Int) (h : n ≠ 0) : double.nearest neg (n * 2 ^ k) (place - k) = double.nearest neg n place := by
  have hp := Nat.two_pow_pos k
  have hn : n * 2 ^ k ≠ 0 := Nat.mul_ne_zero h (by omega)
  rw [nearest_eq neg _ _ hn, nearest_eq neg n place h, log2_scale n k h]
  have el : place - (k : Int) + ((n.log2 + k : Nat) : Int) - 52 = place + (n.log2 : Int) - 52 := by omega
  rw [el]
  generalize max (place + (n.log2 : Int) - 52) (-1074) = last
  have key : Toward.even.cut neg ((n * 2 ^ k) <<< (place - k - last).toNat) (last - (place - k)).toNat = Toward.even.cut neg (n <<< (place - last).toNat) (last - place).toNat := by
    rw [Nat.shiftLeft_eq, Nat.shiftLeft_eq]
    by_cases c1 : last ≤ place - k
    · rw [show (last - (place - k)).toNat = 0 by omega, show (last - place).toNat = 0 by omega, cut_even0, cut_even0, show (place - last).toNat = k + (place - k - last).toNat by omega, Nat.pow_add, Nat.mul_assoc]
    · by_cases c2 : place ≤ last
      · rw [show (place - k - last).toNat = 0 by omega, show (place - last).toNat = 0 by omega, show (last - (place - k)).toNat = (last - place).toNat + k by omega, Nat.pow_zero, Nat.mul_one, Nat.mul_one]
        exact cut_scale neg n _ k h
      · rw [show (place - k - last).toNat = 0 by omega, Nat.pow_zero, Nat.mul_one, show (last - place).toNat = 0 by omega]
        have e : n * 2 ^ k = n * 2 ^ (place - last).toNat * 2 ^ (last - (place - k)).toNat := by
          rw [Nat.mul_assoc, ← Nat.pow_add, show (place - last).toNat + (last - (place - k)).toNat = k by omega]
        rw [e]
        have h3 : n * 2 ^ (place - last).toNat ≠ 0 := Nat.mul_ne_zero h (by have := Nat.two_pow_pos (place - last).toNat; omega)
        have := cut_scale neg (n * 2 ^ (place - last).toNat) 0 (last - (place - k)).toNat h3
        rw [Nat.zero_add] at this
        exact this
  rw [key]

theorem read_word (neg : Bool) (r : Nat) (h : r < 9223372036854775808) : rungB (double.word neg r) = r ∧ negB (double.word neg r) = neg := by
  unfold Format.word rungB negB
  have : double.signWeight = 9223372036854775808 := rfl
  rw [this]
  cases neg <;> simp only [Bool.false_eq_true, if_false, if_true, beq_iff_eq, beq_eq_false_iff_ne, ne_eq] <;> omega

/-- A whole number's float, read. -/
theorem read_nat (neg : Bool) (n : Nat) (h0 : n ≠ 0) (h : n < 9007199254740992) : ∃ k : Nat, k ≤ 52 ∧ 4503599627370496 ≤ n * 2 ^ k ∧ n * 2 ^ k < 9007199254740992 ∧ double.read (double.nearest neg n 0) = .number neg (n * 2 ^ k) (-(k : Int)) := by
  have hl : n.log2 ≤ 52 := by
    have := (Nat.log2_lt h0 (k := 53)).2 h
    omega
  obtain ⟨l1, l2⟩ := (Nat.log2_eq_iff h0).1 rfl
  refine ⟨52 - n.log2, by omega, ?_, ?_, ?_⟩
  · have := Nat.mul_le_mul_right (2 ^ (52 - n.log2)) l1
    rw [← Nat.pow_add, show n.log2 + (52 - n.log2) = 52 by omega] at this
    exact this
  · have := Nat.mul_lt_mul_of_pos_right l2 (Nat.two_pow_pos (52 - n.log2))
    rw [← Nat.pow_add, show n.log2 + 1 + (52 - n.log2) = 53 by omega] at this
    exact this
  · have m1 : 4503599627370496 ≤ n * 2 ^ (52 - n.log2) := by
      have := Nat.mul_le_mul_right (2 ^ (52 - n.log2)) l1
      rw [← Nat.pow_add, show n.log2 + (52 - n.log2) = 52 by omega] at this
      exact this
    have m2 : n * 2 ^ (52 - n.log2) < 9007199254740992 := by
      have := Nat.mul_lt_mul_of_pos_right l2 (Nat.two_pow_pos (52 - n.log2))
      rw [← Nat.pow_add, show n.log2 + 1 + (52 - n.log2) = 53 by omega] at this
      exact this
    rw [nearest_eq neg n 0 h0]
    have e1 : max (0 + (n.log2 : Int) - 52) (-1074) = (n.log2 : Int) - 52 := by omega
    rw [e1, show (0 - ((n.log2 : Int) - 52)).toNat = 52 - n.log2 by omega, show ((n.log2 : Int) - 52 - 0).toNat = 0 by omega, cut_even0, show ((n.log2 : Int) - 52 - -1074).toNat = n.log2 + 1022 by omega, Nat.shiftLeft_eq]
    generalize hM : n * 2 ^ (52 - n.log2) = M at *
    rw [Nat.min_eq_left (by omega)]
    obtain ⟨r1, r2⟩ := read_word neg ((n.log2 + 1022) * 4503599627370496 + M) (by omega)
    rw [read_eq, r1, r2, if_neg (by omega), if_pos (by omega)]
    congr 1 <;> omega

theorem read_zero (neg : Bool) : double.read (double.word neg 0) = .number neg 0 (-1074) := by cases neg <;> rfl

/-- The float of a whole number. -/
def X (a : Int) : Nat := double.nearest (decide (a < 0)) a.natAbs 0

theorem X_tof (a : Int) : floatOfInt .f64 a = X a := rfl
theorem X_lt (a : Int) : X a < 18446744073709551616 := Format.nearest_lt double _ _ _
theorem X_nan (a : Int) : nanB (X a) = false := write_nan (.number (decide (a < 0)) a.natAbs 0) trivial
theorem X_read (a : Int) (h : a.natAbs < 9007199254740992) : ∃ k : Nat, double.read (X a) = .number (decide (a < 0)) (a.natAbs * 2 ^ k) (-(k : Int)) ∧ (a ≠ 0 → k ≤ 52 ∧ 4503599627370496 ≤ a.natAbs * 2 ^ k ∧ a.natAbs * 2 ^ k < 9007199254740992) := by
  unfold X
  by_cases h0 : a.natAbs = 0
  · have ha : a = 0 := by omega
    subst ha
    obtain ⟨k, hk⟩ : ∃ k : Nat, k = 1074 := ⟨_, rfl⟩
    refine ⟨k, ?_, fun h => absurd rfl h⟩
    show double.read (double.nearest (decide ((0 : Int) < 0)) 0 0) = .number _ (0 * 2 ^ k) _
    rw [nearest_zero, Nat.zero_mul, show (-(k : Int)) = -1074 by omega]
    exact read_zero _
  · obtain ⟨k, h1, h2, h3, h4⟩ := read_nat (decide (a < 0)) a.natAbs h0 h
    exact ⟨k, h4, fun _ => ⟨h1, h2, h3⟩⟩

theorem signed_abs (a : Int) (k M : Nat) (h : k ≤ M) : signed (decide (a < 0)) (a.natAbs * 2 ^ k) (M - k) = a * ((2 ^ M : Nat) : Int) := by
  rw [signed_mag, Nat.mul_assoc, ← Nat.pow_add, show k + (M - k) = M by omega]
  by_cases c : a < 0
  · rw [decide_eq_true c, if_pos rfl, Int.natCast_mul, ← Int.neg_mul]; congr 1; omega
  · rw [decide_eq_false c, if_neg Bool.false_ne_true, Int.natCast_mul]; congr 1; omega

theorem signed_abs' (a : Int) (k M : Nat) (h : k ≤ M) : signed (!decide (a < 0)) (a.natAbs * 2 ^ k) (M - k) = (-a) * ((2 ^ M : Nat) : Int) := by
  rw [signed_mag, Nat.mul_assoc, ← Nat.pow_add, show k + (M - k) = M by omega]
  by_cases c : a < 0
  · rw [decide_eq_true c, Bool.not_true, if_neg Bool.false_ne_true, Int.natCast_mul]; congr 1; omega
  · rw [decide_eq_false c, Bool.not_false, if_pos rfl, Int.natCast_mul, ← Int.neg_mul]; congr 1; omega

theorem nearest_abs (c : Int) (s : Bool) (M : Nat) (hs : c = 0 → s = false) : double.nearest (if c * ((2 ^ M : Nat) : Int) = 0 then s else decide (c * ((2 ^ M : Nat) : Int) < 0)) (c * ((2 ^ M : Nat) : Int)).natAbs (-(M : Int)) = X c := by
  have hp := Nat.two_pow_pos M
  have ha : (c * ((2 ^ M : Nat) : Int)).natAbs = c.natAbs * 2 ^ M := by rw [Int.natAbs_mul]; rfl
  rw [ha]
  unfold X
  by_cases h0 : c = 0
  · subst h0
    rw [if_pos (by omega), hs rfl]
    show double.nearest false (0 * 2 ^ M) _ = double.nearest (decide ((0 : Int) < 0)) 0 0
    rw [Nat.zero_mul, nearest_zero, nearest_zero]
    rfl
  · have h1 : c * ((2 ^ M : Nat) : Int) ≠ 0 := Int.mul_ne_zero h0 (by omega)
    rw [if_neg h1]
    have h2 : decide (c * ((2 ^ M : Nat) : Int) < 0) = decide (c < 0) := by
      apply decide_eq_decide.2
      constructor
      · intro h
        by_cases hc : c < 0
        · exact hc
        · have := Int.mul_nonneg (show 0 ≤ c by omega) (show (0 : Int) ≤ ((2 ^ M : Nat) : Int) by omega)
          omega
      · intro h
        exact Int.mul_neg_of_neg_of_pos h (by omega)
    rw [h2]
    have := nearest_scale (decide (c < 0)) c.natAbs M 0 (by omega)
    rw [Int.zero_sub] at this
    exact this

theorem X_add (a b : Int) (ha : a.natAbs < 9007199254740992) (hb : b.natAbs < 9007199254740992) : double.add (X a) (X b) = some (X (a + b)) := by
  obtain ⟨i, ri, _⟩ := X_read a ha
  obtain ⟨j, rj, _⟩ := X_read b hb
  unfold Format.add
  rw [ri, rj]
  have hbase : min (-(i : Int)) (-(j : Int)) = -((max i j : Nat) : Int) := by omega
  show some (double.nearest (if signed _ _ (-(i : Int) - min (-(i : Int)) (-(j : Int))).toNat + signed _ _ (-(j : Int) - min (-(i : Int)) (-(j : Int))).toNat = 0 then _ else decide (signed _ _ (-(i : Int) - min (-(i : Int)) (-(j : Int))).toNat + signed _ _ (-(j : Int) - min (-(i : Int)) (-(j : Int))).toNat < 0)) (signed _ _ (-(i : Int) - min (-(i : Int)) (-(j : Int))).toNat + signed _ _ (-(j : Int) - min (-(i : Int)) (-(j : Int))).toNat).natAbs (min (-(i : Int)) (-(j : Int)))) = _
  rw [hbase, show (-(i : Int) - -((max i j : Nat) : Int)).toNat = max i j - i by omega, show (-(j : Int) - -((max i j : Nat) : Int)).toNat = max i j - j by omega, signed_abs a i _ (by omega), signed_abs b j _ (by omega), ← Int.add_mul]
  congr 1
  apply nearest_abs
  intro h
  by_cases c : a < 0
  · rw [decide_eq_false (show ¬ b < 0 by omega), Bool.and_false]
  · rw [decide_eq_false c, Bool.false_and]

theorem X_sub (a b : Int) (ha : a.natAbs < 9007199254740992) (hb : b.natAbs < 9007199254740992) : double.sub (X a) (X b) = some (X (a - b)) := by
  obtain ⟨i, ri, _⟩ := X_read a ha
  obtain ⟨j, rj, _⟩ := X_read b hb
  unfold Format.sub
  rw [ri, rj]
  have hbase : min (-(i : Int)) (-(j : Int)) = -((max i j : Nat) : Int) := by omega
  show some (double.nearest (if signed _ _ (-(i : Int) - min (-(i : Int)) (-(j : Int))).toNat + signed (!decide (b < 0)) _ (-(j : Int) - min (-(i : Int)) (-(j : Int))).toNat = 0 then _ else decide (signed _ _ (-(i : Int) - min (-(i : Int)) (-(j : Int))).toNat + signed _ _ (-(j : Int) - min (-(i : Int)) (-(j : Int))).toNat < 0)) (signed _ _ (-(i : Int) - min (-(i : Int)) (-(j : Int))).toNat + signed _ _ (-(j : Int) - min (-(i : Int)) (-(j : Int))).toNat).natAbs (min (-(i : Int)) (-(j : Int)))) = _
  rw [hbase, show (-(i : Int) - -((max i j : Nat) : Int)).toNat = max i j - i by omega, show (-(j : Int) - -((max i j : Nat) : Int)).toNat = max i j - j by omega, signed_abs a i _ (by omega), signed_abs' b j _ (by omega), ← Int.add_mul, ← Int.sub_eq_add_neg]
  congr 1
  apply nearest_abs
  intro h
  by_cases c : a < 0
  · rw [decide_eq_true (show b < 0 by omega), Bool.not_true, Bool.and_false]
  · rw [decide_eq_false c, Bool.false_and]

theorem X_order (a b : Int) (ha : a.natAbs < 9007199254740992) (hb : b.natAbs < 9007199254740992) : double.order (X a) (X b) = some (compare a b) := by
  obtain ⟨i, ri, _⟩ := X_read a ha
  obtain ⟨j, rj, _⟩ := X_read b hb
  unfold Format.order
  rw [ri, rj]
  have hbase : min (-(i : Int)) (-(j : Int)) = -((max i j : Nat) : Int) := by omega
  show some (compare (signed _ _ (-(i : Int) - min (-(i : Int)) (-(j : Int))).toNat) (signed _ _ (-(j : Int) - min (-(i : Int)) (-(j : Int))).toNat)) = _
  rw [hbase, show (-(i : Int) - -((max i j : Nat) : Int)).toNat = max i j - i by omega, show (-(j : Int) - -((max i j : Nat) : Int)).toNat = max i j - j by omega, signed_abs a i _ (by omega), signed_abs b j _ (by omega), cmp_mul (Nat.two_pow_pos _)]
end Go.Proofs.YthiopkndbicmkaaDoor

/-
  A float's number, cut towards 0.
-/
import Derived.Test.YthiopkndbicmkabDoorCd
namespace Go.Proofs.YthiopkndbicmkabDoor
open Go.RowKit Ieee
set_option linter.unusedVariables false
set_option linter.unusedSimpArgs false

theorem negB_bits {a : Int} (h : Wd a) : negB (bitsOf a) = decide (a < 0) := by
  obtain ⟨h0, h1⟩ := h
  unfold negB
  rw [bitsOf_eq]
  by_cases c : a < 0
  · rw [decide_eq_true c]
    simp only [beq_iff_eq]
    omega
  · rw [decide_eq_false c]
    simp only [beq_eq_false_iff_ne, ne_eq]
    omega

theorem rungB_bits (a : Int) : rungB (bitsOf a) = (a % 9223372036854775808).toNat := by
  unfold rungB
  rw [bitsOf_eq]
  omega

/-- As the document's words cut a float. -/
def tiV (a : Int) : Int × Int :=
  if a / 4503599627370496 % 2048 < 1023 then (0, 0)
  else if 1086 ≤ a / 4503599627370496 % 2048 then (if a = -4332462841530417152 then (-9223372036854775808, 0) else (0, 6))
  else
    let n : Int := if 1075 ≤ a / 4503599627370496 % 2048 then (a % 4503599627370496 + 4503599627370496) * 2 ^ (a / 4503599627370496 % 2048 - 1075).toNat
      else (a % 4503599627370496 + 4503599627370496) / 2 ^ (1075 - a / 4503599627370496 % 2048).toNat
    (if a < 0 then -n else n, 0)

/-- May it be cut? -/
def cutIn (x : Nat) : Bool := !nanB x && decide (-4890909195324358656 ≤ rankB x) && decide (rankB x < 4890909195324358656)

theorem cut_zero (neg : Bool) (n drop : Nat) : Toward.zero.cut neg n drop = n / 2 ^ drop := by
  show n / (1 <<< min drop (n.log2 + 2)) + 0 = _
  rw [Nat.shiftLeft_eq, Nat.one_mul, Nat.add_zero]
  by_cases h : drop ≤ n.log2 + 2
  · rw [Nat.min_eq_left h]
  · rw [Nat.min_eq_right (by omega)]
    have h1 : n < 2 ^ (n.log2 + 1) := Nat.lt_log2_self
    have h2 : 2 ^ (n.log2 + 1) ≤ 2 ^ (n.log2 + 2) := Nat.pow_le_pow_right (by decide) (by omega)
    have h3 : 2 ^ (n.log2 + 1) ≤ 2 ^ drop := Nat.pow_le_pow_right (by decide) (by omega)
    rw [Nat.div_eq_of_lt (by omega), Nat.div_eq_of_lt (by omega)]

theorem toInt_num (s : Bool) (m : Nat) (i : Int) : (Datum.number s m i).toInt .zero = some (if s then -((m * 2 ^ i.toNat / 2 ^ (-i).toNat : Nat) : Int) else ((m * 2 ^ i.toNat / 2 ^ (-i).toNat : Nat) : Int)) := by
  show some (signed s (Toward.zero.cut s (m <<< i.toNat) (-i).toNat) 0) = _
  rw [cut_zero, Nat.shiftLeft_eq]
  unfold signed
  rw [Nat.shiftLeft_zero]

theorem div_small (R k : Nat) (h : R < 4503599627370496) (hk : 52 ≤ k) : R / 2 ^ k = 0 := by
  apply Nat.div_eq_of_lt
  have : 2 ^ 52 ≤ 2 ^ k := Nat.pow_le_pow_right (by decide) hk
  omega

theorem toi_in (a : Int) (h : Wd a) (hc : cutIn (bitsOf a) = true) : floatToIntVal .f64 (bitsOf a) .i64 = some (tiV a).1 ∧ (tiV a).2 = 0 := by
  have hn := negB_bits h
  have hr := rungB_bits a
  unfold cutIn rankB at hc
  simp only [Bool.and_eq_true, decide_eq_true_eq] at hc
  obtain ⟨⟨_, h1⟩, h2⟩ := hc
  have hlow : rungB (bitsOf a) < 9218868437227405312 := by
    revert h1 h2
    cases negB (bitsOf a) <;> simp only [Bool.false_eq_true, if_false, if_true] <;> omega
  have hrd := read_eq (bitsOf a)
  rw [hn, hr] at hrd h1 h2
  rw [hr] at hlow
  obtain ⟨w0, w1⟩ := h
  generalize hR : (a % 9223372036854775808).toNat = R at *
  have hm : a % 4503599627370496 = ((R % 4503599627370496 : Nat) : Int) := by omega
  have hp : a / 4503599627370496 % 2048 = ((R / 4503599627370496 : Nat) : Int) := by omega
  unfold floatToIntVal
  have hdec : FloatKind.f64.decode (bitsOf a) = double.read (bitsOf a) := rfl
  rw [hdec, hrd]
  by_cases c0 : R < 4503599627370496
  · have ht : tiV a = (0, 0) := by unfold tiV; rw [hm, hp, if_pos (by omega)]
    rw [ht, if_pos c0, toInt_num]
    have e : R * 2 ^ (-1074 : Int).toNat / 2 ^ (-(-1074 : Int)).toNat = 0 := by
      rw [show (-1074 : Int).toNat = 0 from rfl, Nat.pow_zero, Nat.mul_one]
      exact div_small _ _ (by omega) (by decide)
    rw [e]
    simp [IntKind.min, IntKind.max, IntKind.signed, IntKind.bits]
  · rw [if_neg c0, if_pos hlow, toInt_num]
    have hP : 1 ≤ R / 4503599627370496 := by omega
    generalize hp' : R / 4503599627370496 = p at *
    have hm52 : R % 4503599627370496 < 4503599627370496 := Nat.mod_lt _ (by decide)
    generalize hm' : R % 4503599627370496 = m at *
    by_cases c1 : p < 1023
    · have ht : tiV a = (0, 0) := by unfold tiV; rw [hm, hp, if_pos (by omega)]
      rw [ht]
      have e : (4503599627370496 + m) * 2 ^ (-1074 + ((p - 1 : Nat) : Int)).toNat / 2 ^ (-(-1074 + ((p - 1 : Nat) : Int))).toNat = 0 := by
        rw [show (-1074 + ((p - 1 : Nat) : Int)).toNat = 0 by omega]
        apply Nat.div_eq_of_lt
        have : 2 ^ 53 ≤ 2 ^ (-(-1074 + ((p - 1 : Nat) : Int))).toNat := Nat.pow_le_pow_right (by decide) (by omega)
        omega
      rw [e]
      simp [IntKind.min, IntKind.max, IntKind.signed, IntKind.bits]
    · by_cases c2 : 1086 ≤ p
      · by_cases cs : a < 0
        · rw [decide_eq_true cs] at h1 h2 ⊢
          simp only [if_true] at h1 h2 ⊢
          have hp86 : p = 1086 := by omega
          have hm0 : m = 0 := by omega
          subst hp86
          subst hm0
          have ht : tiV a = (-9223372036854775808, 0) := by unfold tiV; rw [hm, hp, if_neg (by omega), if_pos (by omega), if_pos (by omega)]
          rw [ht]
          simp [IntKind.min, IntKind.max, IntKind.signed, IntKind.bits]
        · rw [decide_eq_false cs] at h1 h2
          simp only [Bool.false_eq_true, if_false] at h1 h2
          omega
      · have ht : tiV a = (if a < 0 then -(if (1075 : Int) ≤ (p : Int) then ((m : Int) + 4503599627370496) * 2 ^ ((p : Int) - 1075).toNat else ((m : Int) + 4503599627370496) / 2 ^ (1075 - (p : Int)).toNat) else (if (1075 : Int) ≤ (p : Int) then ((m : Int) + 4503599627370496) * 2 ^ ((p : Int) - 1075).toNat else ((m : Int) + 4503599627370496) / 2 ^ (1075 - (p : Int)).toNat), 0) := by
          unfold tiV; rw [hm, hp, if_neg (by omega), if_neg (by omega)]
        rw [ht]
        have key : ((4503599627370496 + m) * 2 ^ (-1074 + ((p - 1 : Nat) : Int)).toNat / 2 ^ (-(-1074 + ((p - 1 : Nat) : Int))).toNat) < 9223372036854775808 ∧
            (((4503599627370496 + m) * 2 ^ (-1074 + ((p - 1 : Nat) : Int)).toNat / 2 ^ (-(-1074 + ((p - 1 : Nat) : Int))).toNat : Nat) : Int) =
            (if (1075 : Int) ≤ (p : Int) then ((m : Int) + 4503599627370496) * 2 ^ ((p : Int) - 1075).toNat else ((m : Int) + 4503599627370496) / 2 ^ (1075 - (p : Int)).toNat) := by
          by_cases c3 : 1075 ≤ p
          · have e1 : (-1074 + ((p - 1 : Nat) : Int)).toNat = p - 1075 := by omega
            have e2 : (-(-1074 + ((p - 1 : Nat) : Int))).toNat = 0 := by omega
            have e3 : ((p : Int) - 1075).toNat = p - 1075 := by omega
            rw [e1, e2, if_pos (by omega), e3, Nat.pow_zero, Nat.div_one]
            have hk : 2 ^ (p - 1075) ≤ 2 ^ 10 := Nat.pow_le_pow_right (by decide) (by omega)
            constructor
            · have := Nat.mul_le_mul_left (4503599627370496 + m) hk
              omega
            · simp [Int.add_comm]
          · have e1 : (-1074 + ((p - 1 : Nat) : Int)).toNat = 0 := by omega
            have e2 : (-(-1074 + ((p - 1 : Nat) : Int))).toNat = 1075 - p := by omega
            have e3 : (1075 - (p : Int)).toNat = 1075 - p := by omega
            rw [e1, e2, if_neg (by omega), e3, Nat.pow_zero, Nat.mul_one]
            constructor
            · have := Nat.div_le_self (4503599627370496 + m) (2 ^ (1075 - p))
              omega
            · simp [Int.add_comm]
        rw [← key.2]
        have k1 := key.1
        generalize (4503599627370496 + m) * 2 ^ (-1074 + ((p - 1 : Nat) : Int)).toNat / 2 ^ (-(-1074 + ((p - 1 : Nat) : Int))).toNat = N at *
        by_cases cs : a < 0
        · simp [cs, IntKind.min, IntKind.max, IntKind.signed, IntKind.bits]; omega
        · simp [cs, IntKind.min, IntKind.max, IntKind.signed, IntKind.bits]; omega

theorem toi_out (a : Int) (h : Wd a) (hc : cutIn (bitsOf a) = false) : tiV a = (0, 6) := by
  have hn := negB_bits h
  have hr := rungB_bits a
  unfold cutIn rankB nanB at hc
  have hr' : bitsOf a % 9223372036854775808 = (a % 9223372036854775808).toNat := hr
  rw [hn, hr, hr'] at hc
  obtain ⟨w0, w1⟩ := h
  generalize hR : (a % 9223372036854775808).toNat = R at *
  have hp : a / 4503599627370496 % 2048 = ((R / 4503599627370496 : Nat) : Int) := by omega
  have big : 1086 ≤ R / 4503599627370496 ∧ a ≠ -4332462841530417152 := by
    by_cases cs : a < 0
    · simp [cs] at hc
      by_cases c1 : 9218868437227405312 < R
      · omega
      · have := hc (by omega)
        omega
    · simp [cs] at hc
      by_cases c1 : 9218868437227405312 < R
      · omega
      · have := hc (by omega)
        omega
  unfold tiV
  rw [hp, if_neg (by omega), if_pos (by omega), if_neg big.2]
end Go.Proofs.YthiopkndbicmkabDoor

/-
  Words as floats: what a word's float is, the order of floats, rounding.
-/
import Derived.Laws.FloatArith
namespace Go.Proofs.YthiopkndbicmkabDoor
open Ieee

def rungB (b : Nat) : Nat := b % 9223372036854775808
def negB (b : Nat) : Bool := b / 9223372036854775808 % 2 == 1
/-- Is it the word of one that is not a number? -/
def nanB (b : Nat) : Bool := decide (9218868437227405312 < b % 9223372036854775808)

theorem read_eq (b : Nat) : double.read b =
    if rungB b < 4503599627370496 then .number (negB b) (rungB b) (-1074)
    else if rungB b < 9218868437227405312 then .number (negB b) (4503599627370496 + rungB b % 4503599627370496) (-1074 + ((rungB b / 4503599627370496 - 1 : Nat) : Int))
    else if rungB b = 9218868437227405312 then .infinity (negB b)
    else .nan (negB b) (rungB b - 9218868437227405312) := rfl

/-- The number of a rung, in units of the least. -/
def magB (r : Nat) : Nat := if r < 4503599627370496 then r else (4503599627370496 + r % 4503599627370496) * 2 ^ (r / 4503599627370496 - 1)

theorem magB_succ (r : Nat) : magB r < magB (r + 1) := by
  unfold magB
  by_cases h : r < 4503599627370496
  · rw [if_pos h]
    by_cases h2 : r + 1 < 4503599627370496
    · rw [if_pos h2]; omega
    · rw [if_neg h2]
      have e1 : (r + 1) % 4503599627370496 = 0 := by omega
      have e2 : (r + 1) / 4503599627370496 - 1 = 0 := by omega
      rw [e1, e2]; omega
  · rw [if_neg h, if_neg (by omega)]
    by_cases h2 : r % 4503599627370496 + 1 < 4503599627370496
    · have e1 : (r + 1) % 4503599627370496 = r % 4503599627370496 + 1 := by omega
      have e2 : (r + 1) / 4503599627370496 = r / 4503599627370496 := by omega
      rw [e1, e2]
      exact Nat.mul_lt_mul_of_pos_right (by omega) (Nat.two_pow_pos _)
    · have e1 : (r + 1) % 4503599627370496 = 0 := by omega
      have e2 : (r + 1) / 4503599627370496 - 1 = (r / 4503599627370496 - 1) + 1 := by omega
      have e3 : r % 4503599627370496 = 4503599627370495 := by omega
      rw [e1, e2, e3, Nat.pow_succ]
      have := Nat.two_pow_pos (r / 4503599627370496 - 1)
      generalize 2 ^ (r / 4503599627370496 - 1) = K at *
      omega

theorem magB_lt {r s : Nat} (h : r < s) : magB r < magB s := by
  obtain ⟨k, rfl⟩ : ∃ k, s = r + 1 + k := ⟨s - (r + 1), by omega⟩
  clear h
  induction k with
  | zero => exact magB_succ r
  | succ k ih => exact Nat.lt_trans ih (magB_succ _)

theorem magB_lt_iff {r s : Nat} : magB r < magB s ↔ r < s := by
  constructor
  · intro h
    rcases Nat.lt_trichotomy r s with h1 | h1 | h1
    · exact h1
    · subst h1; omega
    · have := magB_lt h1; omega
  · exact magB_lt

theorem magB_inj {r s : Nat} : magB r = magB s ↔ r = s := by
  constructor
  · intro h
    rcases Nat.lt_trichotomy r s with h1 | h1 | h1
    · have := magB_lt h1; omega
    · exact h1
    · have := magB_lt h1; omega
  · rintro rfl; rfl

theorem read_num (b : Nat) (h : rungB b < 9218868437227405312) : ∃ m e : Nat, double.read b = .number (negB b) m (-1074 + (e : Int)) ∧ m * 2 ^ e = magB (rungB b) := by
  rw [read_eq]
  unfold magB
  by_cases c : rungB b < 4503599627370496
  · refine ⟨rungB b, 0, ?_, ?_⟩
    · rw [if_pos c]; rfl
    · rw [if_pos c]; omega
  · refine ⟨4503599627370496 + rungB b % 4503599627370496, rungB b / 4503599627370496 - 1, ?_, ?_⟩
    · rw [if_neg c, if_pos h]
    · rw [if_neg c]

theorem read_inf (b : Nat) (h : rungB b = 9218868437227405312) : double.read b = .infinity (negB b) := by
  rw [read_eq, if_neg (by omega), if_neg (by omega), if_pos h]

theorem read_nan (b : Nat) (h : 9218868437227405312 < rungB b) : double.read b = .nan (negB b) (rungB b - 9218868437227405312) := by
  rw [read_eq, if_neg (by omega), if_neg (by omega), if_neg (by omega)]

theorem cmp_of {a b c d : Int} (h1 : a < b ↔ c < d) (h2 : a = b ↔ c = d) : compare a b = compare c d := by
  simp only [compare, compareOfLessAndEq, h1, h2]

/-- A float's place among all. -/
def rankB (b : Nat) : Int := if negB b then -(rungB b : Int) else rungB b

theorem signed_scale (s : Bool) (m u e : Nat) : signed s m u * ((2 ^ e : Nat) : Int) = signed s m (u + e) := by
  unfold signed
  have : m <<< (u + e) = m <<< u * 2 ^ e := by
    rw [Nat.shiftLeft_eq, Nat.shiftLeft_eq, Nat.pow_add, Nat.mul_assoc]
  split <;> rw [this] <;> simp [Int.neg_mul]

theorem signed_mag (s : Bool) (m e : Nat) : signed s m e = if s then -((m * 2 ^ e : Nat) : Int) else ((m * 2 ^ e : Nat) : Int) := by
  unfold signed
  rw [Nat.shiftLeft_eq]

theorem cmp_mul {a b : Int} {K : Nat} (hK : 0 < K) : compare (a * (K : Int)) (b * (K : Int)) = compare a b := by
  apply cmp_of
  · constructor
    · intro h; exact Int.lt_of_mul_lt_mul_right h (by omega)
    · intro h; exact Int.mul_lt_mul_of_pos_right h (by omega)
  · constructor
    · intro h; exact Int.eq_of_mul_eq_mul_right (by omega) h
    · intro h; rw [h]

theorem order_eq (x y : Nat) (hx : nanB x = false) (hy : nanB y = false) : double.order x y = some (compare (rankB x) (rankB y)) := by
  have hx' : rungB x ≤ 9218868437227405312 := by simpa [nanB, rungB] using hx
  have hy' : rungB y ≤ 9218868437227405312 := by simpa [nanB, rungB] using hy
  unfold Format.order
  by_cases cx : rungB x < 9218868437227405312
  · obtain ⟨m, e, rx, vx⟩ := read_num x cx
    by_cases cy : rungB y < 9218868437227405312
    · obtain ⟨n, f, ry, vy⟩ := read_num y cy
      rw [rx, ry]
      show some (compare (signed (negB x) m (-1074 + (e : Int) - min (-1074 + (e : Int)) (-1074 + (f : Int))).toNat) (signed (negB y) n (-1074 + (f : Int) - min (-1074 + (e : Int)) (-1074 + (f : Int))).toNat)) = _
      have e1 : (-1074 + (e : Int) - min (-1074 + (e : Int)) (-1074 + (f : Int))).toNat = e - min e f := by omega
      have e2 : (-1074 + (f : Int) - min (-1074 + (e : Int)) (-1074 + (f : Int))).toNat = f - min e f := by omega
      rw [e1, e2, ← cmp_mul (K := 2 ^ min e f) (Nat.two_pow_pos _), signed_scale, signed_scale, show e - min e f + min e f = e by omega, show f - min e f + min e f = f by omega, signed_mag, signed_mag, vx, vy]
      have l1 := @magB_lt_iff (rungB x) (rungB y)
      have l2 := @magB_lt_iff (rungB y) (rungB x)
      have l3 := @magB_inj (rungB x) (rungB y)
      have z : magB 0 = 0 := rfl
      have p1 := @magB_inj (rungB x) 0
      have p2 := @magB_inj (rungB y) 0
      rw [z] at p1 p2
      unfold rankB
      congr 1
      apply cmp_of <;> cases negB x <;> cases negB y <;> simp only [Bool.false_eq_true, if_false, if_true] <;> omega
    · have cy' : rungB y = 9218868437227405312 := by omega
      rw [rx, read_inf y cy']
      show some (if negB y then Ordering.gt else Ordering.lt) = _
      unfold rankB
      rw [cy']
      cases negB y <;> cases negB x <;> simp only [Bool.false_eq_true, if_false, if_true]
      · exact congrArg some (Int.compare_eq_lt.2 (by omega)).symm
      · exact congrArg some (Int.compare_eq_lt.2 (by omega)).symm
      · exact congrArg some (Int.compare_eq_gt.2 (by omega)).symm
      · exact congrArg some (Int.compare_eq_gt.2 (by omega)).symm
  · have cx' : rungB x = 9218868437227405312 := by omega
    rw [read_inf x cx']
    by_cases cy : rungB y < 9218868437227405312
    · obtain ⟨n, f, ry, vy⟩ := read_num y cy
      rw [ry]
      show some (if negB x then Ordering.lt else Ordering.gt) = _
      unfold rankB
      rw [cx']
      cases negB x <;> cases negB y <;> simp only [Bool.false_eq_true, if_false, if_true]
      · exact congrArg some (Int.compare_eq_gt.2 (by omega)).symm
      · exact congrArg some (Int.compare_eq_gt.2 (by omega)).symm
      · exact congrArg some (Int.compare_eq_lt.2 (by omega)).symm
      · exact congrArg some (Int.compare_eq_lt.2 (by omega)).symm
    · have cy' : rungB y = 9218868437227405312 := by omega
      rw [read_inf y cy']
      show some (compare (negB y).toNat (negB x).toNat) = _
      unfold rankB
      rw [cx', cy']
      cases negB x <;> cases negB y <;> rfl

theorem order_nan (x y : Nat) (h : (nanB x || nanB y) = true) : double.order x y = none := by
  unfold Format.order
  by_cases cx : nanB x = true
  · rw [read_nan x (by simpa [nanB, rungB] using cx)]
    cases double.read y <;> rfl
  · have cy : nanB y = true := by simpa [cx] using h
    rw [read_nan y (by simpa [nanB, rungB] using cy)]
    cases double.read x <;> rfl

theorem order_self (x : Nat) : (double.order x x == some .eq) = !nanB x := by
  cases h : nanB x
  · rw [order_eq x x h h]
    have : compare (rankB x) (rankB x) = .eq := Int.compare_eq_eq.2 rfl
    rw [this]; rfl
  · rw [order_nan x x (by simp [h])]; rfl

theorem order_eql (x y : Nat) : (double.order x y == some .eq) = (!nanB x && !nanB y && (rankB x == rankB y)) := by
  cases h : nanB x
  · cases h2 : nanB y
    · rw [order_eq x y h h2]
      by_cases c : rankB x = rankB y
      · rw [Int.compare_eq_eq.2 c]; simp [c]
      · have h3 : compare (rankB x) (rankB y) ≠ .eq := fun h => c (Int.compare_eq_eq.1 h)
        have h4 : (some (compare (rankB x) (rankB y)) == some Ordering.eq) = false := by
          rw [beq_eq_false_iff_ne]; exact fun h => h3 (Option.some.inj h)
        rw [h4, beq_eq_false_iff_ne.2 c]; rfl
    · rw [order_nan x y (by simp [h2])]; rfl
  · rw [order_nan x y (by simp [h])]; rfl

theorem order_lss (x y : Nat) : (double.order x y == some .lt) = (!nanB x && !nanB y && decide (rankB x < rankB y)) := by
  cases h : nanB x
  · cases h2 : nanB y
    · rw [order_eq x y h h2]
      by_cases c : rankB x < rankB y
      · rw [Int.compare_eq_lt.2 c]; simp [c]
      · have h3 : compare (rankB x) (rankB y) ≠ .lt := fun h => c (Int.compare_eq_lt.1 h)
        have h4 : (some (compare (rankB x) (rankB y)) == some Ordering.lt) = false := by
          rw [beq_eq_false_iff_ne]; exact fun h => h3 (Option.some.inj h)
        rw [h4, decide_eq_false c]; rfl
    · rw [order_nan x y (by simp [h2])]; rfl
  · rw [order_nan x y (by simp [h])]; rfl

/-! What an operation tells is a number, or an infinity. -/

def Real' : Datum → Prop
  | .nan .. => False
  | _ => True

theorem word_nan (neg : Bool) (r : Nat) (h : r ≤ 9218868437227405312) : nanB (double.word neg r) = false := by
  unfold Format.word nanB
  have : double.signWeight = 9223372036854775808 := rfl
  rw [this]
  cases neg <;> simp only [Bool.false_eq_true, if_false, if_true, decide_eq_false_iff_not] <;> omega

theorem write_nan (d : Datum) (h : Real' d) : nanB (double.write d) = false := by
  cases d with
  | number s m i =>
    show nanB (double.nearest s m i) = false
    unfold Format.nearest
    dsimp only
    have hi : double.infRung = 9218868437227405312 := rfl
    split
    · exact word_nan _ _ (by omega)
    · exact word_nan _ _ (by rw [← hi]; exact Nat.min_le_right ..)
  | infinity s => exact word_nan _ _ (Nat.le_refl _)
  | nan s t => exact h.elim

theorem sum_real {d e r : Datum} (h : d.sum e = some r) : Real' r := by
  cases d <;> cases e <;> simp only [Datum.sum] at h <;> (try split at h) <;> cases h <;> trivial

theorem product_real {d e r : Datum} (h : d.product e = some r) : Real' r := by
  cases d <;> cases e <;> simp only [Datum.product] at h <;> (try split at h) <;> cases h <;> trivial

theorem quotient_real {k : Nat} {d e r : Datum} (h : d.quotient k e = some r) : Real' r := by
  cases d <;> cases e <;> simp only [Datum.quotient] at h <;> (try split at h) <;> (try split at h) <;> cases h <;> trivial

theorem root_real {k : Nat} {d r : Datum} (h : d.root k = some r) : Real' r := by
  cases d <;> simp only [Datum.root] at h <;> (try split at h) <;> (try split at h) <;> cases h <;> trivial

theorem map_real {d : Option Datum} {r : Nat} (hd : ∀ x, d = some x → Real' x) (h : d.map double.write = some r) : nanB r = false := by
  cases d with
  | none => cases h
  | some d => cases h; exact write_nan d (hd d rfl)

theorem floatBits_nan {op : BinOp} {x y r : Nat} (h : floatBits op .f64 x y = some r) : nanB r = false := by
  unfold floatBits at h
  split at h
  · exact map_real (fun _ h => sum_real h) h
  · exact map_real (fun _ h => sum_real h) h
  · exact map_real (fun _ h => product_real h) h
  · exact map_real (fun _ h => quotient_real h) h
  · cases h

theorem sqrt_nan {x r : Nat} (h : double.sqrt x = some r) : nanB r = false := map_real (fun _ h => root_real h) h

theorem floatBits_none {op : BinOp} {x y : Nat} (h : (nanB x || nanB y) = true) : floatBits op .f64 x y = none := by
  unfold floatBits
  by_cases cx : nanB x = true
  · have hr := read_nan x (by simpa [nanB, rungB] using cx)
    split
    · show ((double.read x).sum _).map _ = none; rw [hr]; rfl
    · show ((double.read x).sum _).map _ = none; rw [hr]; rfl
    · show ((double.read x).product _).map _ = none; rw [hr]; rfl
    · show ((double.read x).quotient _ _).map _ = none; rw [hr]; rfl
    · rfl
  · have cy : nanB y = true := by simpa [cx] using h
    have hr := read_nan y (by simpa [nanB, rungB] using cy)
    split
    · show ((double.read x).sum (double.read y)).map _ = none; rw [hr]; cases double.read x <;> rfl
    · show ((double.read x).sum (double.read y).opposite).map _ = none; rw [hr]; cases double.read x <;> rfl
    · show ((double.read x).product (double.read y)).map _ = none; rw [hr]; cases double.read x <;> rfl
    · show ((double.read x).quotient _ (double.read y)).map _ = none; rw [hr]; cases double.read x <;> rfl
    · rfl

theorem sqrt_none {x : Nat} (h : nanB x = true) : double.sqrt x = none := by
  have hr := read_nan x (by simpa [nanB, rungB] using h)
  show ((double.read x).root _).map _ = none
  rw [hr]; rfl
end Go.Proofs.YthiopkndbicmkabDoor

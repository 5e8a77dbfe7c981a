/-
  Whole numbers: sums and differences, quotients and rests, bits, moves.
-/
import Derived.Test.YthiopkndbicmkabDoorCe
namespace Go.Proofs.YthiopkndbicmkabDoor
open Go.RowKit
set_option linter.unusedVariables false
set_option linter.unusedSimpArgs false

/-- What the law's two and one tell. -/
def twoL (op a b : Int) : Int := if (twoV op a b).2 = 0 then (twoV op a b).1 else -12345
def oneL (op a : Int) : Int := if (oneV op a).2 = 0 then (oneV op a).1 else -12345

theorem and_or : ∀ (n x y : Nat), x + y ≤ n → (x &&& y) + (x ||| y) = x + y ∧ (x ||| y) = (x &&& y) + (x ^^^ y)
  | 0, x, y, h => by
    obtain rfl : x = 0 := by omega
    obtain rfl : y = 0 := by omega
    exact ⟨rfl, rfl⟩
  | n + 1, x, y, h => by
    by_cases h0 : x + y ≤ n
    · exact and_or n x y h0
    · have ih := and_or n (x / 2) (y / 2) (by omega)
      have d1 : (x &&& y) / 2 = x / 2 &&& y / 2 := Nat.and_div_two
      have d2 : (x ||| y) / 2 = x / 2 ||| y / 2 := Nat.or_div_two
      have d3 : (x ^^^ y) / 2 = x / 2 ^^^ y / 2 := Nat.xor_div_two
      have m1 : (x &&& y) % 2 = (x % 2) &&& (y % 2) := Nat.and_mod_two_pow (n := 1)
      have m2 : (x ||| y) % 2 = (x % 2) ||| (y % 2) := Nat.or_mod_two_pow (n := 1)
      have m3 : (x ^^^ y) % 2 = (x % 2) ^^^ (y % 2) := Nat.xor_mod_two_pow (n := 1)
      rw [← d1, ← d2, ← d3] at ih
      have hx : x % 2 = 0 ∨ x % 2 = 1 := by omega
      have hy : y % 2 = 0 ∨ y % 2 = 1 := by omega
      have g : ((x &&& y) % 2 + (x ||| y) % 2 = x % 2 + y % 2) ∧ ((x ||| y) % 2 = (x &&& y) % 2 + (x ^^^ y) % 2) := by
        rw [m1, m2, m3]
        rcases hx with e | e <;> rcases hy with f | f <;> rw [e, f] <;> decide
      omega

theorem toNat_bits (a : Int) : (BitVec.ofInt 64 a).toNat = bitsOf a := by
  rw [BitVec.toNat_ofInt, bitsOf_eq]; rfl

theorem bits_and (a b : Int) : bits .and .i64 a b = wrap64 ((bitsOf a &&& bitsOf b : Nat) : Int) := by
  show IntKind.i64.wrap ((BitVec.ofInt 64 a &&& BitVec.ofInt 64 b).toNat : Int) = _
  rw [IntWalk.i64_left, BitVec.toNat_and, toNat_bits, toNat_bits]
theorem bits_or (a b : Int) : bits .or .i64 a b = wrap64 ((bitsOf a ||| bitsOf b : Nat) : Int) := by
  show IntKind.i64.wrap ((BitVec.ofInt 64 a ||| BitVec.ofInt 64 b).toNat : Int) = _
  rw [IntWalk.i64_left, BitVec.toNat_or, toNat_bits, toNat_bits]
theorem bits_xor (a b : Int) : bits .xor .i64 a b = wrap64 ((bitsOf a ^^^ bitsOf b : Nat) : Int) := by
  show IntKind.i64.wrap ((BitVec.ofInt 64 a ^^^ BitVec.ofInt 64 b).toNat : Int) = _
  rw [IntWalk.i64_left, BitVec.toNat_xor, toNat_bits, toNat_bits]

theorem bits_wrap (n : Nat) (h : n < 18446744073709551616) : bitsOf (wrap64 n) = n := by
  rw [bitsOf_eq]; unfold wrap64; omega
theorem wrap_bits {a : Int} (h : Wd a) : wrap64 (bitsOf a) = a := by
  obtain ⟨h0, h1⟩ := h
  rw [bitsOf_eq]; unfold wrap64; omega
theorem wd_wrap (n : Int) : Wd (wrap64 n) := by unfold wrap64; constructor <;> omega
theorem bits_cong (a : Int) : ∃ k : Int, (bitsOf a : Int) = a + k * 18446744073709551616 := ⟨-(a / 18446744073709551616), by rw [bitsOf_eq]; omega⟩
theorem wrap_cong (a : Int) : ∃ k : Int, wrap64 a = a + k * 18446744073709551616 := ⟨-((a + 9223372036854775808) / 18446744073709551616), by unfold wrap64; omega⟩
theorem wrap_eq {a b k : Int} (h : a = b + k * 18446744073709551616) : wrap64 a = wrap64 b := by subst h; unfold wrap64; omega

theorem land_lt (a b : Int) : bitsOf a &&& bitsOf b < 18446744073709551616 := Nat.and_lt_two_pow _ (n := 64) (bitsOf_lt b)
theorem lor_lt (a b : Int) : bitsOf a ||| bitsOf b < 18446744073709551616 := Nat.or_lt_two_pow (n := 64) (bitsOf_lt a) (bitsOf_lt b)
theorem lxor_lt (a b : Int) : bitsOf a ^^^ bitsOf b < 18446744073709551616 := Nat.xor_lt_two_pow (n := 64) (bitsOf_lt a) (bitsOf_lt b)

theorem not_eq {a : Int} (h : Wd a) : bits .xor .i64 (-1) a = -1 - a := by
  rw [bits_xor]
  have h1 : bitsOf (-1) = 18446744073709551615 := by decide
  have hl := bitsOf_lt a
  have e : bitsOf (-1) ^^^ bitsOf a = 18446744073709551615 - bitsOf a := by
    rw [h1, Nat.xor_comm]
    generalize bitsOf a = x at *
    have k1 := (and_or _ x 18446744073709551615 (Nat.le_refl _)).1
    have k2 := (and_or _ x 18446744073709551615 (Nat.le_refl _)).2
    have k3 : x &&& 18446744073709551615 = x := by
      have := Nat.and_two_pow_sub_one_eq_mod x 64
      rw [show (2 : Nat) ^ 64 - 1 = 18446744073709551615 from rfl] at this
      rw [this]; exact Nat.mod_eq_of_lt hl
    omega
  rw [e]
  obtain ⟨h0, h2⟩ := h
  have := bitsOf_eq a
  unfold wrap64
  omega

section
variable (a b : Int)
theorem L_add : twoL 20 a b = wrap64 (a + b) := by
  unfold twoL; rw [show twoV 20 a b = (wrap64 (a + b), 0) from rfl]; exact if_pos rfl
theorem L_sub : twoL 21 a b = wrap64 (a - b) := by
  unfold twoL; rw [show twoV 21 a b = (wrap64 (a - b), 0) from rfl]; exact if_pos rfl
theorem L_mul : twoL 22 a b = wrap64 (a * b) := by
  unfold twoL; rw [show twoV 22 a b = (wrap64 (a * b), 0) from rfl]; exact if_pos rfl
theorem L_and : twoL 25 a b = bits .and .i64 a b := by
  unfold twoL; rw [show twoV 25 a b = (bits .and .i64 a b, 0) from rfl]; exact if_pos rfl
theorem L_or : twoL 26 a b = bits .or .i64 a b := by
  unfold twoL; rw [show twoV 26 a b = (bits .or .i64 a b, 0) from rfl]; exact if_pos rfl
theorem L_xor : twoL 27 a b = bits .xor .i64 a b := by
  unfold twoL; rw [show twoV 27 a b = (bits .xor .i64 a b, 0) from rfl]; exact if_pos rfl
theorem L_shl : twoL 28 a b = wrap64 (a * 2 ^ by6 b) := by
  unfold twoL; rw [show twoV 28 a b = (wrap64 (a * 2 ^ by6 b), 0) from rfl]; exact if_pos rfl
theorem L_shr : twoL 29 a b = a / 2 ^ by6 b := by
  unfold twoL; rw [show twoV 29 a b = (a / 2 ^ by6 b, 0) from rfl]; exact if_pos rfl
theorem L_ushr : twoL 30 a b = wrap64 ((bitsOf a : Int) / 2 ^ by6 b) := by
  unfold twoL; rw [show twoV 30 a b = (wrap64 ((bitsOf a : Int) / 2 ^ by6 b), 0) from rfl]; exact if_pos rfl
theorem L_eq : twoL 31 a b = oneW (a == b) := by
  unfold twoL; rw [show twoV 31 a b = (oneW (a == b), 0) from rfl]; exact if_pos rfl
theorem L_lt : twoL 32 a b = oneW (decide (a < b)) := by
  unfold twoL; rw [show twoV 32 a b = (oneW (decide (a < b)), 0) from rfl]; exact if_pos rfl
theorem L_ult : twoL 33 a b = oneW (decide (bitsOf a < bitsOf b)) := by
  unfold twoL; rw [show twoV 33 a b = (oneW (decide (bitsOf a < bitsOf b)), 0) from rfl]; exact if_pos rfl
theorem L_neg : oneL 34 a = wrap64 (-a) := by
  unfold oneL; rw [show oneV 34 a = (wrap64 (-a), 0) from rfl]; exact if_pos rfl
theorem L_not : oneL 35 a = bits .xor .i64 (-1) a := by
  unfold oneL; rw [show oneV 35 a = (bits .xor .i64 (-1) a, 0) from rfl]; exact if_pos rfl
end

theorem andor_aux (a b : Int) (A B : Nat) (hA : ∃ k : Int, (A : Int) = a + k * 18446744073709551616) (hB : ∃ k : Int, (B : Int) = b + k * 18446744073709551616) :
    wrap64 (wrap64 ((A &&& B : Nat) : Int) + wrap64 ((A ||| B : Nat) : Int)) = wrap64 (a + b) := by
  have k := (and_or _ A B (Nat.le_refl _)).1
  obtain ⟨j1, h1⟩ := hA
  obtain ⟨j2, h2⟩ := hB
  obtain ⟨j3, h3⟩ := wrap_cong ((A &&& B : Nat) : Int)
  obtain ⟨j4, h4⟩ := wrap_cong ((A ||| B : Nat) : Int)
  rw [h3, h4]
  apply wrap_eq (k := j1 + j2 + j3 + j4)
  omega

theorem orand_aux (A B : Nat) : wrap64 (wrap64 ((A ||| B : Nat) : Int) - wrap64 ((A &&& B : Nat) : Int)) = wrap64 ((A ^^^ B : Nat) : Int) := by
  have k := (and_or _ A B (Nat.le_refl _)).2
  obtain ⟨j3, h3⟩ := wrap_cong ((A &&& B : Nat) : Int)
  obtain ⟨j4, h4⟩ := wrap_cong ((A ||| B : Nat) : Int)
  rw [h3, h4]
  apply wrap_eq (k := j4 - j3)
  omega

theorem w_undo {a b : Int} (ha : Wd a) : twoL 21 (twoL 20 a b) b = a := by
  rw [L_sub, L_add]; obtain ⟨h0, h1⟩ := ha; unfold wrap64; omega
theorem w_neg {a : Int} : twoL 20 a (oneL 34 a) = 0 := by
  rw [L_add, L_neg]; unfold wrap64; omega
theorem w_not {a : Int} (ha : Wd a) : oneL 35 (oneL 35 a) = a := by
  rw [L_not, L_not, not_eq ha, not_eq (by obtain ⟨h0, h1⟩ := ha; constructor <;> omega)]; omega
theorem w_quo {a b : Int} (ha : Wd a) (h0 : b ≠ 0) : twoL 20 (twoL 22 (wrap64 (a.tdiv b)) b) (a.tmod b) = a := by
  rw [L_add, L_mul]
  obtain ⟨k, hk⟩ := wrap_cong (a.tdiv b)
  obtain ⟨j, hj⟩ := wrap_cong (wrap64 (a.tdiv b) * b)
  have e := Int.tmod_add_mul_tdiv a b
  have : wrap64 (wrap64 (wrap64 (a.tdiv b) * b) + a.tmod b) = wrap64 a := by
    apply wrap_eq (k := k * b + j)
    rw [hj, hk, Int.add_mul, Int.add_mul]
    rw [Int.mul_comm b] at e
    have e2 : k * 18446744073709551616 * b = k * b * 18446744073709551616 := by rw [Int.mul_assoc, Int.mul_assoc, Int.mul_comm b]
    omega
  rw [this]
  obtain ⟨h0, h1⟩ := ha
  unfold wrap64; omega
theorem w_rsign {a b : Int} : a.tmod b = 0 ∨ decide (a.tmod b < 0) = decide (a < 0) := by
  by_cases h : a < 0
  · rw [decide_eq_true h]
    have : (a.tmod b) ≤ 0 := by
      have h1 := Int.tmod_nonneg b (show 0 ≤ -a by omega)
      rw [Int.neg_tmod] at h1
      omega
    by_cases h2 : a.tmod b = 0
    · exact Or.inl h2
    · exact Or.inr (decide_eq_true (by omega))
  · rw [decide_eq_false h]
    have := Int.tmod_nonneg b (show 0 ≤ a by omega)
    exact Or.inr (decide_eq_false (by omega))
theorem w_near {a b : Int} (h0 : b ≠ 0) : (a.tmod b).natAbs < b.natAbs := by
  rw [Int.natAbs_tmod]
  exact Nat.mod_lt _ (by omega)
theorem w_andor {a b : Int} : twoL 20 (twoL 25 a b) (twoL 26 a b) = twoL 20 a b := by
  simp only [L_add, L_and, L_or, bits_and, bits_or]
  exact andor_aux a b (bitsOf a) (bitsOf b) (bits_cong a) (bits_cong b)
theorem w_xor {a b : Int} (ha : Wd a) : twoL 27 (twoL 27 a b) b = a := by
  rw [L_xor, L_xor, bits_xor, bits_xor, bits_wrap _ (lxor_lt a b), Nat.xor_assoc, Nat.xor_self, Nat.xor_zero, wrap_bits ha]
theorem w_orand {a b : Int} : twoL 21 (twoL 26 a b) (twoL 25 a b) = twoL 27 a b := by
  simp only [L_sub, L_and, L_or, L_xor, bits_and, bits_or, bits_xor]
  exact orand_aux (bitsOf a) (bitsOf b)
end Go.Proofs.YthiopkndbicmkabDoor

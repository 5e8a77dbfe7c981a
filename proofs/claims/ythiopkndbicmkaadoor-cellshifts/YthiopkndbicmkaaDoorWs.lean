/-
  The walk of CellShifts.
-/
import Derived.Test.YthiopkndbicmkaaDoorWw
namespace Go.Proofs.YthiopkndbicmkaaDoor
open Go.RowKit
set_option linter.unusedVariables false
set_option linter.unusedSimpArgs false

theorem bits_6 (a : Int) : bits .and .i64 a 63 = a % 64 := bits_low a 6 (by decide)

theorem by6_k (n : Int) : by6 (n % 64) = by6 n := by unfold by6; omega

theorem wrap_pow (k : Nat) (hk : k < 64) : wrap64 (wrap64 (1 * 2 ^ k) - 1) = ((2 ^ k - 1 : Nat) : Int) := by
  have hp : 2 ^ k ≤ 2 ^ 63 := Nat.pow_le_pow_right (by decide) (by omega)
  have hp1 : 0 < 2 ^ k := Nat.two_pow_pos k
  have e : (2 : Int) ^ k = ((2 ^ k : Nat) : Int) := by simp
  rw [e]
  generalize 2 ^ k = K at *
  unfold wrap64
  omega

section
variable (a n : Int)
theorem s_up : twoL 28 a (n % 64) = twoL 28 a n := by rw [L_shl, L_shl, by6_k]
theorem s_down : twoL 29 a (n % 64) = twoL 29 a n := by rw [L_shr, L_shr, by6_k]
theorem s_flat : twoL 30 a (n % 64) = twoL 30 a n := by rw [L_ushr, L_ushr, by6_k]
theorem s_low : twoL 25 a (twoL 21 (twoL 28 1 (n % 64)) 1) = a % ((2 ^ by6 n : Nat) : Int) := by
  rw [L_and, L_sub, L_shl, by6_k, wrap_pow _ (by6_lt n)]
  exact bits_low a (by6 n) (by have := by6_lt n; omega)
theorem s_mul : twoL 22 a (twoL 28 1 (n % 64)) = twoL 28 a n := by
  rw [L_mul, L_shl, L_shl, by6_k]
  obtain ⟨k, hk⟩ := wrap_cong (1 * 2 ^ by6 n)
  rw [hk, Int.one_mul]
  apply wrap_eq (k := a * k)
  rw [Int.mul_add, Int.mul_assoc]
theorem s_back : twoL 28 (twoL 29 a n) (n % 64) = twoL 21 a (a % ((2 ^ by6 n : Nat) : Int)) := by
  rw [L_shl, L_shr, L_sub, by6_k]
  have e : (2 : Int) ^ by6 n = ((2 ^ by6 n : Nat) : Int) := by simp
  rw [e]
  have h := Int.mul_ediv_add_emod a ((2 ^ by6 n : Nat) : Int)
  rw [Int.mul_comm] at h
  congr 1
  omega
theorem s_flatback : twoL 28 (twoL 30 a n) (n % 64) = twoL 21 a (a % ((2 ^ by6 n : Nat) : Int)) := by
  rw [L_shl, L_ushr, L_sub, by6_k]
  have e : (2 : Int) ^ by6 n = ((2 ^ by6 n : Nat) : Int) := by simp
  rw [e]
  have hd : ((2 ^ by6 n : Nat) : Int) ∣ 18446744073709551616 := by
    refine ⟨((2 ^ (64 - by6 n) : Nat) : Int), ?_⟩
    rw [← Int.natCast_mul, ← Nat.pow_add, show by6 n + (64 - by6 n) = 64 by have := by6_lt n; omega]
    rfl
  obtain ⟨j, hj⟩ := bits_cong a
  have hm : (bitsOf a : Int) % ((2 ^ by6 n : Nat) : Int) = a % ((2 ^ by6 n : Nat) : Int) := by
    rw [hj]
    obtain ⟨d, hd⟩ := hd
    rw [hd, ← Int.mul_assoc, Int.mul_comm j, Int.mul_assoc, Int.add_mul_emod_self_left]
  have h := Int.mul_ediv_add_emod (bitsOf a : Int) ((2 ^ by6 n : Nat) : Int)
  rw [hm, Int.mul_comm] at h
  obtain ⟨k, hk⟩ := wrap_cong ((bitsOf a : Int) / ((2 ^ by6 n : Nat) : Int))
  rw [hk]
  apply wrap_eq (k := j + k * ((2 ^ by6 n : Nat) : Int))
  rw [Int.add_mul, Int.add_mul]
  have e2 : k * 18446744073709551616 * ((2 ^ by6 n : Nat) : Int) = k * ((2 ^ by6 n : Nat) : Int) * 18446744073709551616 := by rw [Int.mul_assoc, Int.mul_assoc, Int.mul_comm 18446744073709551616]
  omega
theorem s_sign : decide (twoL 29 a n < 0) = decide (a < 0) := by
  rw [L_shr]
  have e : (2 : Int) ^ by6 n = ((2 ^ by6 n : Nat) : Int) := by simp
  have hp1 : 0 < 2 ^ by6 n := Nat.two_pow_pos _
  rw [e]
  by_cases h : a < 0
  · rw [decide_eq_true h, decide_eq_true (Int.ediv_neg_of_neg_of_pos h (by omega))]
  · rw [decide_eq_false h, decide_eq_false]
    have := Int.ediv_nonneg (show 0 ≤ a by omega) (show (0 : Int) ≤ ((2 ^ by6 n : Nat) : Int) by omega)
    omega
theorem s_up0 : n % 64 ≠ 0 → 0 ≤ twoL 30 a n := by
  intro h
  rw [L_ushr]
  have e : (2 : Int) ^ by6 n = ((2 ^ by6 n : Nat) : Int) := by simp
  have hp1 : 2 ^ 1 ≤ 2 ^ by6 n := Nat.pow_le_pow_right (by decide) (by unfold by6; omega)
  rw [e]
  have hl := bitsOf_lt a
  have h1 : bitsOf a / 2 ^ by6 n ≤ bitsOf a / 2 := Nat.div_le_div_left hp1 (by decide)
  rw [← Int.natCast_ediv]
  generalize bitsOf a / 2 ^ by6 n = D at *
  unfold wrap64
  omega
end

set_option maxRecDepth 100000 in
set_option maxHeartbeats 4000000 in
theorem cellShifts_walk (a n : Int) (ha : Wd a) (hb : Wd n) (w : World) (hL : Laid w) : Calls Tryd.prog 7 #[.int .i64 a, .int .i64 n] w (Gone w) := by
  have HT : Hid (∀ op a b n, Calls Tryd.prog 22 #[.int .i64 op, .int .i64 a, .int .i64 b] (w.drewN n) fun e w' => e = .returned (.int .i64 (twoL op a b)) ∧ ∃ q, w' = w.drewN q) := fun op a b n => law_two_n w hL op a b n
  have HH : Hid (∀ n, Calls Tryd.prog 13 #[] (w.drewN n) fun e w' => e = .returned (.bool true) ∧ ∃ q, w' = w.drewN q) := fun n => head_n w hL n
  have e0 := bits_6 n
  have e1 := s_up a n
  have e2 := s_down a n
  have e3 := s_flat a n
  have e4 := s_low a n
  have e5 := s_mul a n
  have e6 := s_back a n
  have e7 := s_flatback a n
  have e8 := s_sign a n
  have e9 := s_up0 a n
  generalize n % 64 = k at *
  generalize a % ((2 ^ by6 n : Nat) : Int) = lo at *
  clear ha hb hL
  by_cases hk : k = 0
  · have hk' : (k == 0) = true := by simpa using hk
    clear hk e9
    go_enter Tryd.func7, Tryd.ntmps7
    go_wp2_with fail
    refine (HT.out _ _ _ 0).mono ?_
    rintro e w' ⟨rfl, q, rfl⟩
    go_wp2_with fail
    refine (HT.out _ _ _ _).mono ?_
    rintro e w' ⟨rfl, q, rfl⟩
    go_wp2_with fail
    refine (HT.out _ _ _ _).mono ?_
    rintro e w' ⟨rfl, q, rfl⟩
    go_wp2_with fail
    refine (HT.out _ _ _ _).mono ?_
    rintro e w' ⟨rfl, q, rfl⟩
    go_wp2_with fail
    refine (HT.out _ _ _ _).mono ?_
    rintro e w' ⟨rfl, q, rfl⟩
    go_wp2_with fail
    refine (HT.out _ _ _ _).mono ?_
    rintro e w' ⟨rfl, q, rfl⟩
    go_wp2_with fail
    refine (HT.out _ _ _ _).mono ?_
    rintro e w' ⟨rfl, q, rfl⟩
    go_wp2_with fail
    refine (HT.out _ _ _ _).mono ?_
    rintro e w' ⟨rfl, q, rfl⟩
    go_wp2_with fail
    refine (HT.out _ _ _ _).mono ?_
    rintro e w' ⟨rfl, q, rfl⟩
    go_wp2_with fail
    refine (HT.out _ _ _ _).mono ?_
    rintro e w' ⟨rfl, q, rfl⟩
    go_wp2_with fail
    refine (HT.out _ _ _ _).mono ?_
    rintro e w' ⟨rfl, q, rfl⟩
    go_wp2_with fail
    refine (HT.out _ _ _ _).mono ?_
    rintro e w' ⟨rfl, q, rfl⟩
    go_wp2_with fail
    refine (HT.out _ _ _ _).mono ?_
    rintro e w' ⟨rfl, q, rfl⟩
    go_wp2_with fail
    refine (HT.out _ _ _ _).mono ?_
    rintro e w' ⟨rfl, q, rfl⟩
    go_wp2_with fail
    refine (HH.out _).mono ?_
    rintro e w' ⟨rfl, q, rfl⟩
    go_wp2
    all_goals go_ret
    all_goals exact ⟨rfl, _, rfl⟩
  · have hk' : (k == 0) = false := by simpa using hk
    have e9' : decide (0 ≤ twoL 30 a n) = true := decide_eq_true (e9 hk)
    have e9b := e9 hk
    clear hk e9
    go_enter Tryd.func7, Tryd.ntmps7
    go_wp2_with fail
    refine (HT.out _ _ _ 0).mono ?_
    rintro e w' ⟨rfl, q, rfl⟩
    go_wp2_with fail
    refine (HT.out _ _ _ _).mono ?_
    rintro e w' ⟨rfl, q, rfl⟩
    go_wp2_with fail
    refine (HT.out _ _ _ _).mono ?_
    rintro e w' ⟨rfl, q, rfl⟩
    go_wp2_with fail
    refine (HT.out _ _ _ _).mono ?_
    rintro e w' ⟨rfl, q, rfl⟩
    go_wp2_with fail
    refine (HT.out _ _ _ _).mono ?_
    rintro e w' ⟨rfl, q, rfl⟩
    go_wp2_with fail
    refine (HT.out _ _ _ _).mono ?_
    rintro e w' ⟨rfl, q, rfl⟩
    go_wp2_with fail
    refine (HT.out _ _ _ _).mono ?_
    rintro e w' ⟨rfl, q, rfl⟩
    go_wp2_with fail
    refine (HT.out _ _ _ _).mono ?_
    rintro e w' ⟨rfl, q, rfl⟩
    go_wp2_with fail
    refine (HT.out _ _ _ _).mono ?_
    rintro e w' ⟨rfl, q, rfl⟩
    go_wp2_with fail
    refine (HT.out _ _ _ _).mono ?_
    rintro e w' ⟨rfl, q, rfl⟩
    go_wp2_with fail
    refine (HT.out _ _ _ _).mono ?_
    rintro e w' ⟨rfl, q, rfl⟩
    go_wp2_with fail
    refine (HT.out _ _ _ _).mono ?_
    rintro e w' ⟨rfl, q, rfl⟩
    go_wp2_with fail
    refine (HT.out _ _ _ _).mono ?_
    rintro e w' ⟨rfl, q, rfl⟩
    go_wp2_with fail
    refine (HT.out _ _ _ _).mono ?_
    rintro e w' ⟨rfl, q, rfl⟩
    go_wp2_with fail
    refine (HH.out _).mono ?_
    rintro e w' ⟨rfl, q, rfl⟩
    go_wp2
    all_goals go_ret
    all_goals exact ⟨rfl, _, rfl⟩
end Go.Proofs.YthiopkndbicmkaaDoor

/-
  The document's Two: bits moved one by one, floats.
-/
import Derived.Test.YthiopkndbicmkaaDoorFc
namespace Go.Proofs.YthiopkndbicmkaaDoor
open Go.RowKit
set_option linter.unusedVariables false
set_option linter.unusedSimpArgs false

theorem bits_63 (a : Int) : bits .and .i64 a 9223372036854775807 = a % 9223372036854775808 := bits_low a 63 (by decide)

/-- The steps. -/
theorem step_up (a : Int) (i : Nat) : wrap64 (wrap64 (a * 2 ^ i) + wrap64 (a * 2 ^ i)) = wrap64 (a * 2 ^ (i + 1)) := by
  obtain ⟨k, hk⟩ := wrap_cong (a * 2 ^ i)
  rw [hk]
  apply wrap_eq (k := k + k)
  rw [Int.pow_succ, ← Int.mul_assoc]
  generalize a * 2 ^ i = z
  omega
theorem step_down (a : Int) (i : Nat) : a / 2 ^ i / 2 = a / 2 ^ (i + 1) := by
  rw [Int.pow_succ, Int.ediv_ediv_of_nonneg (Int.le_of_lt (Int.pow_pos (by decide)))]
theorem step_flat (B : Nat) (hB : B < 18446744073709551616) (i : Nat) : wrap64 ((B : Int) / 2 ^ i) / 2 % 9223372036854775808 = wrap64 ((B : Int) / 2 ^ (i + 1)) := by
  rw [← step_down]
  have e : (B : Int) / 2 ^ i = ((B / 2 ^ i : Nat) : Int) := by simp
  rw [e]
  have h := Nat.div_le_self B (2 ^ i)
  generalize B / 2 ^ i = D at *
  unfold wrap64
  omega

set_option maxRecDepth 100000 in
set_option maxHeartbeats 1000000 in
theorem rmoved_shl (a : Int) (ha : Wd a) (n : Nat) (hn : n < 64) (w : World) :
    Calls Tryd.prog 35 #[.int .i64 28, .int .i64 a, .int .i64 (n : Int)] w fun e w' => e = .returned (.int .i64 (wrap64 (a * 2 ^ n))) ∧ w' = w := by
  have h0 : a = wrap64 (a * 2 ^ 0) := by rw [Int.pow_zero, Int.mul_one]; exact (IntWalk.wrap64_in a ha).symm
  have HS : Hid (∀ i : Nat, wrap64 (wrap64 (a * 2 ^ i) + wrap64 (a * 2 ^ i)) = wrap64 (a * 2 ^ (i + 1))) := fun i => step_up a i
  have H0 := hid_of h0
  obtain ⟨g, HG⟩ : ∃ g : Nat → Int, Hid (∀ i, g i = wrap64 (a * 2 ^ i)) := ⟨fun i => wrap64 (a * 2 ^ i), fun _ => rfl⟩
  have HE : Hid (a = g 0) := by rw [HG.out]; exact h0
  have HST : Hid (∀ i, wrap64 (g i + g i) = g (i + 1)) := fun i => by rw [HG.out, HG.out]; exact HS.out i
  rw [← HG.out n]
  clear h0 HS H0 HG ha
  go_enter Tryd.func35, Tryd.ntmps35
  go_wp2
  go_loopw [1, 7] (fun v i wr => ∃ k : Nat, k ≤ n ∧ v = .int .i64 (g k) ∧ i = .int .i64 k ∧ wr = w) (fun v i _ => n - (intOf i).toNat)
  case atStart => exact ⟨0, by omega, by rw [← HE.out], rfl, rfl⟩
  case round =>
    obtain ⟨k, hk, rfl, rfl, rfl⟩ := hrel
    have hs := HST.out k
    generalize hu : g (k + 1) = u at *
    generalize hv : g k = v at *
    have HU := hid_of hu
    have HV := hid_of hv
    clear hu hv
    by_cases hkn : k < n
    · have hb1 : (k : Int) < (n : Int) := by omega
      skip
      go_wp2
      go_roundw
      case rel => exact ⟨k + 1, by omega, by first | (rw [HU.out]; done) | (rw [HU.out, hs]; done) | (rw [HU.out, hbits, hs]; done), by go_num, by first | rfl | trivial⟩
      case measure => simp [intOf]; omega
    · obtain rfl : k = n := by omega
      go_wp2
      go_ret
      exact ⟨by rw [HV.out]; rfl, rfl⟩

set_option maxRecDepth 100000 in
set_option maxHeartbeats 1000000 in
theorem rmoved_shr (a : Int) (ha : Wd a) (n : Nat) (hn : n < 64) (w : World) :
    Calls Tryd.prog 35 #[.int .i64 29, .int .i64 a, .int .i64 (n : Int)] w fun e w' => e = .returned (.int .i64 (a / 2 ^ n)) ∧ w' = w := by
  have h0 : a = a / 2 ^ 0 := by rw [Int.pow_zero, Int.ediv_one]
  have HS : Hid (∀ i : Nat, a / 2 ^ i / 2 = a / 2 ^ (i + 1)) := fun i => step_down a i
  have H0 := hid_of h0
  obtain ⟨g, HG⟩ : ∃ g : Nat → Int, Hid (∀ i, g i = a / 2 ^ i) := ⟨fun i => a / 2 ^ i, fun _ => rfl⟩
  have HE : Hid (a = g 0) := by rw [HG.out]; exact h0
  have HST : Hid (∀ i, g i / 2 = g (i + 1)) := fun i => by rw [HG.out, HG.out]; exact HS.out i
  rw [← HG.out n]
  clear h0 HS H0 HG ha
  go_enter Tryd.func35, Tryd.ntmps35
  go_wp2
  go_loopw [1, 7] (fun v i wr => ∃ k : Nat, k ≤ n ∧ v = .int .i64 (g k) ∧ i = .int .i64 k ∧ wr = w) (fun v i _ => n - (intOf i).toNat)
  case atStart => exact ⟨0, by omega, by rw [← HE.out], rfl, rfl⟩
  case round =>
    obtain ⟨k, hk, rfl, rfl, rfl⟩ := hrel
    have hs := HST.out k
    generalize hu : g (k + 1) = u at *
    generalize hv : g k = v at *
    have HU := hid_of hu
    have HV := hid_of hv
    clear hu hv
    by_cases hkn : k < n
    · have hb1 : (k : Int) < (n : Int) := by omega
      skip
      go_wp2
      go_roundw
      case rel => exact ⟨k + 1, by omega, by first | (rw [HU.out]; done) | (rw [HU.out, hs]; done) | (rw [HU.out, hbits, hs]; done), by go_num, by first | rfl | trivial⟩
      case measure => simp [intOf]; omega
    · obtain rfl : k = n := by omega
      go_wp2
      go_ret
      exact ⟨by rw [HV.out]; rfl, rfl⟩

set_option maxRecDepth 100000 in
set_option maxHeartbeats 1000000 in
theorem rmoved_ushr (a : Int) (ha : Wd a) (n : Nat) (hn : n < 64) (w : World) :
    Calls Tryd.prog 35 #[.int .i64 30, .int .i64 a, .int .i64 (n : Int)] w fun e w' => e = .returned (.int .i64 (wrap64 ((bitsOf a : Int) / 2 ^ n))) ∧ w' = w := by
  have h0 : a = wrap64 ((bitsOf a : Int) / 2 ^ 0) := by rw [Int.pow_zero, Int.ediv_one, wrap_bits ha]
  have HS : Hid (∀ i : Nat, wrap64 ((bitsOf a : Int) / 2 ^ i) / 2 % 9223372036854775808 = wrap64 ((bitsOf a : Int) / 2 ^ (i + 1))) := fun i => step_flat (bitsOf a) (bitsOf_lt a) i
  have H0 := hid_of h0
  obtain ⟨g, HG⟩ : ∃ g : Nat → Int, Hid (∀ i, g i = wrap64 ((bitsOf a : Int) / 2 ^ i)) := ⟨fun i => wrap64 ((bitsOf a : Int) / 2 ^ i), fun _ => rfl⟩
  have HE : Hid (a = g 0) := by rw [HG.out]; exact h0
  have HST : Hid (∀ i, g i / 2 % 9223372036854775808 = g (i + 1)) := fun i => by rw [HG.out, HG.out]; exact HS.out i
  rw [← HG.out n]
  clear h0 HS H0 HG ha
  go_enter Tryd.func35, Tryd.ntmps35
  go_wp2
  go_loopw [1, 7] (fun v i wr => ∃ k : Nat, k ≤ n ∧ v = .int .i64 (g k) ∧ i = .int .i64 k ∧ wr = w) (fun v i _ => n - (intOf i).toNat)
  case atStart => exact ⟨0, by omega, by rw [← HE.out], rfl, rfl⟩
  case round =>
    obtain ⟨k, hk, rfl, rfl, rfl⟩ := hrel
    have hs := HST.out k
    generalize hu : g (k + 1) = u at *
    generalize hv : g k = v at *
    have HU := hid_of hu
    have HV := hid_of hv
    clear hu hv
    by_cases hkn : k < n
    · have hb1 : (k : Int) < (n : Int) := by omega
      have hbits := bits_63 (v / 2)
      go_wp2
      go_roundw
      case rel => exact ⟨k + 1, by omega, by first | (rw [HU.out]; done) | (rw [HU.out, hs]; done) | (rw [HU.out, hbits, hs]; done), by go_num, by first | rfl | trivial⟩
      case measure => simp [intOf]; omega
    · obtain rfl : k = n := by omega
      go_wp2
      go_ret
      exact ⟨by rw [HV.out]; rfl, rfl⟩
end Go.Proofs.YthiopkndbicmkaaDoor

/-
  The document's Two and Has2.
-/
import Derived.Test.YthiopkndbicmkaaDoorRb
namespace Go.Proofs.YthiopkndbicmkaaDoor
open Go.RowKit
set_option linter.unusedVariables false
set_option linter.unusedSimpArgs false

set_option maxRecDepth 100000 in
set_option maxHeartbeats 1000000 in
theorem rtwo_add (a b : Int) (ha : Wd a) (hb : Wd b) (w : World) : TwoC 20 a b 10 w := by
  unfold TwoC
  rw [show twoV 20 a b = (wrap64 (a + b), 0) from rfl]
  clear ha hb
  skip
  go_enter Tryd.func10, Tryd.ntmps10
  go_wp2
  all_goals go_ret2
  all_goals exact ⟨rfl, 0, rfl⟩

set_option maxRecDepth 100000 in
set_option maxHeartbeats 1000000 in
theorem rtwo_sub (a b : Int) (ha : Wd a) (hb : Wd b) (w : World) : TwoC 21 a b 10 w := by
  unfold TwoC
  rw [show twoV 21 a b = (wrap64 (a - b), 0) from rfl]
  clear ha hb
  skip
  go_enter Tryd.func10, Tryd.ntmps10
  go_wp2
  all_goals go_ret2
  all_goals exact ⟨rfl, 0, rfl⟩

set_option maxRecDepth 100000 in
set_option maxHeartbeats 1000000 in
theorem rtwo_mul (a b : Int) (ha : Wd a) (hb : Wd b) (w : World) : TwoC 22 a b 10 w := by
  unfold TwoC
  rw [show twoV 22 a b = (wrap64 (a * b), 0) from rfl]
  clear ha hb
  skip
  go_enter Tryd.func10, Tryd.ntmps10
  go_wp2
  all_goals go_ret2
  all_goals exact ⟨rfl, 0, rfl⟩

set_option maxRecDepth 100000 in
set_option maxHeartbeats 1000000 in
theorem rtwo_and (a b : Int) (ha : Wd a) (hb : Wd b) (w : World) : TwoC 25 a b 10 w := by
  unfold TwoC
  rw [show twoV 25 a b = (bits .and .i64 a b, 0) from rfl]
  clear ha hb
  skip
  go_enter Tryd.func10, Tryd.ntmps10
  go_wp2
  all_goals go_ret2
  all_goals exact ⟨rfl, 0, rfl⟩

set_option maxRecDepth 100000 in
set_option maxHeartbeats 1000000 in
theorem rtwo_or (a b : Int) (ha : Wd a) (hb : Wd b) (w : World) : TwoC 26 a b 10 w := by
  unfold TwoC
  rw [show twoV 26 a b = (bits .or .i64 a b, 0) from rfl]
  clear ha hb
  skip
  go_enter Tryd.func10, Tryd.ntmps10
  go_wp2
  all_goals go_ret2
  all_goals exact ⟨rfl, 0, rfl⟩

set_option maxRecDepth 100000 in
set_option maxHeartbeats 1000000 in
theorem rtwo_xor (a b : Int) (ha : Wd a) (hb : Wd b) (w : World) : TwoC 27 a b 10 w := by
  unfold TwoC
  rw [show twoV 27 a b = (bits .xor .i64 a b, 0) from rfl]
  clear ha hb
  have hx := bits_xor2 a b
  go_enter Tryd.func10, Tryd.ntmps10
  go_wp2
  all_goals go_ret2
  all_goals exact ⟨by first | rfl | (rw [← hx]; rfl), 0, rfl⟩

set_option maxRecDepth 100000 in
set_option maxHeartbeats 1000000 in
theorem rtwo_div (a b : Int) (ha : Wd a) (hb : Wd b) (w : World) : TwoC 23 a b 10 w := by
  have HD : Hid (∀ W, Calls Tryd.prog 34 #[.int .i64 23, .int .i64 a, .int .i64 b] W fun e w' => e = .returned (.tuple #[.int .i64 (twoV 23 a b).1, .int .i64 (twoV 23 a b).2]) ∧ w' = W) := fun W => divided_any 23 a b (by simp) ha hb W
  unfold TwoC
  generalize (twoV 23 a b).1 = v at *
  generalize (twoV 23 a b).2 = t at *
  clear ha hb
  go_enter Tryd.func10, Tryd.ntmps10
  go_wp2_with fail
  refine (HD.out _).mono ?_
  rintro e w' ⟨rfl, rfl⟩
  go_wp2
  all_goals go_ret2
  all_goals exact ⟨rfl, 0, rfl⟩

set_option maxRecDepth 100000 in
set_option maxHeartbeats 1000000 in
theorem rtwo_rem (a b : Int) (ha : Wd a) (hb : Wd b) (w : World) : TwoC 24 a b 10 w := by
  have HD : Hid (∀ W, Calls Tryd.prog 34 #[.int .i64 24, .int .i64 a, .int .i64 b] W fun e w' => e = .returned (.tuple #[.int .i64 (twoV 24 a b).1, .int .i64 (twoV 24 a b).2]) ∧ w' = W) := fun W => divided_any 24 a b (by simp) ha hb W
  unfold TwoC
  generalize (twoV 24 a b).1 = v at *
  generalize (twoV 24 a b).2 = t at *
  clear ha hb
  go_enter Tryd.func10, Tryd.ntmps10
  go_wp2_with fail
  refine (HD.out _).mono ?_
  rintro e w' ⟨rfl, rfl⟩
  go_wp2
  all_goals go_ret2
  all_goals exact ⟨rfl, 0, rfl⟩

set_option maxRecDepth 100000 in
set_option maxHeartbeats 1000000 in
theorem rtwo_shl (a b : Int) (ha : Wd a) (hb : Wd b) (w : World) : TwoC 28 a b 10 w := by
  have HM : Hid (∀ W, Calls Tryd.prog 35 #[.int .i64 28, .int .i64 a, .int .i64 (bits .and .i64 b 63)] W fun e w' => e = .returned (.int .i64 (wrap64 (a * 2 ^ by6 b))) ∧ w' = W) := fun W => by
    have hk : bits .and .i64 b 63 = (by6 b : Int) := by
      have := bits_low b 6 (by decide)
      rw [show ((2 ^ 6 - 1 : Nat) : Int) = 63 from rfl] at this
      rw [this]
      unfold by6
      show b % 64 = _
      omega
    rw [hk]
    exact rmoved_shl a ha (by6 b) (by6_lt b) W
  unfold TwoC
  rw [show twoV 28 a b = (wrap64 (a * 2 ^ by6 b), 0) from rfl]
  generalize wrap64 (a * 2 ^ by6 b) = z at *
  clear ha hb
  go_enter Tryd.func10, Tryd.ntmps10
  go_wp2_with fail
  refine (HM.out _).mono ?_
  rintro e w' ⟨rfl, rfl⟩
  go_wp2
  all_goals go_ret2
  all_goals exact ⟨rfl, 0, rfl⟩

set_option maxRecDepth 100000 in
set_option maxHeartbeats 1000000 in
theorem rtwo_shr (a b : Int) (ha : Wd a) (hb : Wd b) (w : World) : TwoC 29 a b 10 w := by
  have HM : Hid (∀ W, Calls Tryd.prog 35 #[.int .i64 29, .int .i64 a, .int .i64 (bits .and .i64 b 63)] W fun e w' => e = .returned (.int .i64 (a / 2 ^ by6 b)) ∧ w' = W) := fun W => by
    have hk : bits .and .i64 b 63 = (by6 b : Int) := by
      have := bits_low b 6 (by decide)
      rw [show ((2 ^ 6 - 1 : Nat) : Int) = 63 from rfl] at this
      rw [this]
      unfold by6
      show b % 64 = _
      omega
    rw [hk]
    exact rmoved_shr a ha (by6 b) (by6_lt b) W
  unfold TwoC
  rw [show twoV 29 a b = (a / 2 ^ by6 b, 0) from rfl]
  generalize a / 2 ^ by6 b = z at *
  clear ha hb
  go_enter Tryd.func10, Tryd.ntmps10
  go_wp2_with fail
  refine (HM.out _).mono ?_
  rintro e w' ⟨rfl, rfl⟩
  go_wp2
  all_goals go_ret2
  all_goals exact ⟨rfl, 0, rfl⟩

set_option maxRecDepth 100000 in
set_option maxHeartbeats 1000000 in
theorem rtwo_ushr (a b : Int) (ha : Wd a) (hb : Wd b) (w : World) : TwoC 30 a b 10 w := by
  have HM : Hid (∀ W, Calls Tryd.prog 35 #[.int .i64 30, .int .i64 a, .int .i64 (bits .and .i64 b 63)] W fun e w' => e = .returned (.int .i64 (wrap64 ((bitsOf a : Int) / 2 ^ by6 b))) ∧ w' = W) := fun W => by
    have hk : bits .and .i64 b 63 = (by6 b : Int) := by
      have := bits_low b 6 (by decide)
      rw [show ((2 ^ 6 - 1 : Nat) : Int) = 63 from rfl] at this
      rw [this]
      unfold by6
      show b % 64 = _
      omega
    rw [hk]
    exact rmoved_ushr a ha (by6 b) (by6_lt b) W
  unfold TwoC
  rw [show twoV 30 a b = (wrap64 ((bitsOf a : Int) / 2 ^ by6 b), 0) from rfl]
  generalize wrap64 ((bitsOf a : Int) / 2 ^ by6 b) = z at *
  clear ha hb
  go_enter Tryd.func10, Tryd.ntmps10
  go_wp2_with fail
  refine (HM.out _).mono ?_
  rintro e w' ⟨rfl, rfl⟩
  go_wp2
  all_goals go_ret2
  all_goals exact ⟨rfl, 0, rfl⟩

set_option maxRecDepth 100000 in
set_option maxHeartbeats 1000000 in
theorem rtwo_eq (a b : Int) (ha : Wd a) (hb : Wd b) (w : World) : TwoC 31 a b 10 w := by
  have HB : Hid (∀ W, Calls Tryd.prog 37 #[.int .i64 a, .int .i64 b] W fun e w' => e = .returned (.bool (decide (bitsOf a < bitsOf b))) ∧ w' = W) := fun W => below_any a b ha hb W
  have HO : Hid (∀ (c : Bool) W, Calls Tryd.prog 36 #[.bool c] W fun e w' => e = .returned (.int .i64 (oneW c)) ∧ w' = W) := fun c W => rone_any c W
  unfold TwoC
  rw [show twoV 31 a b = (oneW (a == b), 0) from rfl]
  clear ha hb
  go_enter Tryd.func10, Tryd.ntmps10
  go_wp2_with fail
  refine (HO.out _ _).mono ?_
  rintro e w' ⟨rfl, rfl⟩
  go_wp2
  all_goals go_ret2
  all_goals exact ⟨rfl, 0, rfl⟩

set_option maxRecDepth 100000 in
set_option maxHeartbeats 1000000 in
theorem rtwo_lt (a b : Int) (ha : Wd a) (hb : Wd b) (w : World) : TwoC 32 a b 10 w := by
  have HB : Hid (∀ W, Calls Tryd.prog 37 #[.int .i64 a, .int .i64 b] W fun e w' => e = .returned (.bool (decide (bitsOf a < bitsOf b))) ∧ w' = W) := fun W => below_any a b ha hb W
  have HO : Hid (∀ (c : Bool) W, Calls Tryd.prog 36 #[.bool c] W fun e w' => e = .returned (.int .i64 (oneW c)) ∧ w' = W) := fun c W => rone_any c W
  unfold TwoC
  rw [show twoV 32 a b = (oneW (decide (a < b)), 0) from rfl]
  clear ha hb
  go_enter Tryd.func10, Tryd.ntmps10
  go_wp2_with fail
  refine (HO.out _ _).mono ?_
  rintro e w' ⟨rfl, rfl⟩
  go_wp2
  all_goals go_ret2
  all_goals exact ⟨rfl, 0, rfl⟩

set_option maxRecDepth 100000 in
set_option maxHeartbeats 1000000 in
theorem rtwo_ult (a b : Int) (ha : Wd a) (hb : Wd b) (w : World) : TwoC 33 a b 10 w := by
  have HB : Hid (∀ W, Calls Tryd.prog 37 #[.int .i64 a, .int .i64 b] W fun e w' => e = .returned (.bool (decide (bitsOf a < bitsOf b))) ∧ w' = W) := fun W => below_any a b ha hb W
  have HO : Hid (∀ (c : Bool) W, Calls Tryd.prog 36 #[.bool c] W fun e w' => e = .returned (.int .i64 (oneW c)) ∧ w' = W) := fun c W => rone_any c W
  unfold TwoC
  rw [show twoV 33 a b = (oneW (decide (bitsOf a < bitsOf b)), 0) from rfl]
  clear ha hb
  go_enter Tryd.func10, Tryd.ntmps10
  go_wp2_with fail
  refine (HB.out _).mono ?_
  rintro e w' ⟨rfl, rfl⟩
  go_wp2_with fail
  refine (HO.out _ _).mono ?_
  rintro e w' ⟨rfl, rfl⟩
  go_wp2
  all_goals go_ret2
  all_goals exact ⟨rfl, 0, rfl⟩

set_option maxRecDepth 100000 in
set_option maxHeartbeats 1000000 in
theorem rtwo_fadd (a b : Int) (ha : Wd a) (hb : Wd b) (w : World) : TwoC 36 a b 10 w := by
  have HF : Hid (∀ W, Calls Tryd.prog 38 #[.int .i64 36, .int .i64 a, .int .i64 b] W fun e w' => e = .returned (.tuple #[.int .i64 (twoV 36 a b).1, .int .i64 (twoV 36 a b).2]) ∧ ∃ q, w' = W.drewN q) := fun W => rfl_fadd a b W
  unfold TwoC
  generalize (twoV 36 a b).1 = v at *
  generalize (twoV 36 a b).2 = t at *
  clear ha hb
  go_enter Tryd.func10, Tryd.ntmps10
  go_wp2_with fail
  refine (HF.out _).mono ?_
  rintro e w' ⟨rfl, q, rfl⟩
  go_wp2
  all_goals go_ret2
  all_goals exact ⟨rfl, _, rfl⟩

set_option maxRecDepth 100000 in
set_option maxHeartbeats 1000000 in
theorem rtwo_fsub (a b : Int) (ha : Wd a) (hb : Wd b) (w : World) : TwoC 37 a b 10 w := by
  have HF : Hid (∀ W, Calls Tryd.prog 38 #[.int .i64 37, .int .i64 a, .int .i64 b] W fun e w' => e = .returned (.tuple #[.int .i64 (twoV 37 a b).1, .int .i64 (twoV 37 a b).2]) ∧ ∃ q, w' = W.drewN q) := fun W => rfl_fsub a b W
  unfold TwoC
  generalize (twoV 37 a b).1 = v at *
  generalize (twoV 37 a b).2 = t at *
  clear ha hb
  go_enter Tryd.func10, Tryd.ntmps10
  go_wp2_with fail
  refine (HF.out _).mono ?_
  rintro e w' ⟨rfl, q, rfl⟩
  go_wp2
  all_goals go_ret2
  all_goals exact ⟨rfl, _, rfl⟩

set_option maxRecDepth 100000 in
set_option maxHeartbeats 1000000 in
theorem rtwo_fmul (a b : Int) (ha : Wd a) (hb : Wd b) (w : World) : TwoC 38 a b 10 w := by
  have HF : Hid (∀ W, Calls Tryd.prog 38 #[.int .i64 38, .int .i64 a, .int .i64 b] W fun e w' => e = .returned (.tuple #[.int .i64 (twoV 38 a b).1, .int .i64 (twoV 38 a b).2]) ∧ ∃ q, w' = W.drewN q) := fun W => rfl_fmul a b W
  unfold TwoC
  generalize (twoV 38 a b).1 = v at *
  generalize (twoV 38 a b).2 = t at *
  clear ha hb
  go_enter Tryd.func10, Tryd.ntmps10
  go_wp2_with fail
  refine (HF.out _).mono ?_
  rintro e w' ⟨rfl, q, rfl⟩
  go_wp2
  all_goals go_ret2
  all_goals exact ⟨rfl, _, rfl⟩

set_option maxRecDepth 100000 in
set_option maxHeartbeats 1000000 in
theorem rtwo_fdiv (a b : Int) (ha : Wd a) (hb : Wd b) (w : World) : TwoC 39 a b 10 w := by
  have HF : Hid (∀ W, Calls Tryd.prog 38 #[.int .i64 39, .int .i64 a, .int .i64 b] W fun e w' => e = .returned (.tuple #[.int .i64 (twoV 39 a b).1, .int .i64 (twoV 39 a b).2]) ∧ ∃ q, w' = W.drewN q) := fun W => rfl_fdiv a b W
  unfold TwoC
  generalize (twoV 39 a b).1 = v at *
  generalize (twoV 39 a b).2 = t at *
  clear ha hb
  go_enter Tryd.func10, Tryd.ntmps10
  go_wp2_with fail
  refine (HF.out _).mono ?_
  rintro e w' ⟨rfl, q, rfl⟩
  go_wp2
  all_goals go_ret2
  all_goals exact ⟨rfl, _, rfl⟩

set_option maxRecDepth 100000 in
set_option maxHeartbeats 1000000 in
theorem rtwo_feq (a b : Int) (ha : Wd a) (hb : Wd b) (w : World) : TwoC 40 a b 10 w := by
  have HF : Hid (∀ W, Calls Tryd.prog 38 #[.int .i64 40, .int .i64 a, .int .i64 b] W fun e w' => e = .returned (.tuple #[.int .i64 (twoV 40 a b).1, .int .i64 (twoV 40 a b).2]) ∧ ∃ q, w' = W.drewN q) := fun W => rfl_feq a b ha hb W
  unfold TwoC
  generalize (twoV 40 a b).1 = v at *
  generalize (twoV 40 a b).2 = t at *
  clear ha hb
  go_enter Tryd.func10, Tryd.ntmps10
  go_wp2_with fail
  refine (HF.out _).mono ?_
  rintro e w' ⟨rfl, q, rfl⟩
  go_wp2
  all_goals go_ret2
  all_goals exact ⟨rfl, _, rfl⟩

set_option maxRecDepth 100000 in
set_option maxHeartbeats 1000000 in
theorem rtwo_flt (a b : Int) (ha : Wd a) (hb : Wd b) (w : World) : TwoC 41 a b 10 w := by
  have HF : Hid (∀ W, Calls Tryd.prog 38 #[.int .i64 41, .int .i64 a, .int .i64 b] W fun e w' => e = .returned (.tuple #[.int .i64 (twoV 41 a b).1, .int .i64 (twoV 41 a b).2]) ∧ ∃ q, w' = W.drewN q) := fun W => rfl_flt a b ha hb W
  unfold TwoC
  generalize (twoV 41 a b).1 = v at *
  generalize (twoV 41 a b).2 = t at *
  clear ha hb
  go_enter Tryd.func10, Tryd.ntmps10
  go_wp2_with fail
  refine (HF.out _).mono ?_
  rintro e w' ⟨rfl, q, rfl⟩
  go_wp2
  all_goals go_ret2
  all_goals exact ⟨rfl, _, rfl⟩

set_option maxRecDepth 100000 in
set_option maxHeartbeats 1000000 in
theorem rfl_none (op a b : Int) (h36 : (op == 36) = false) (h37 : (op == 37) = false) (h38 : (op == 38) = false) (h39 : (op == 39) = false) (h40 : (op == 40) = false) (h41 : (op == 41) = false) (w : World) :
    Calls Tryd.prog 38 #[.int .i64 op, .int .i64 a, .int .i64 b] w fun e w' => e = .returned (.tuple #[.int .i64 0, .int .i64 8]) ∧ w' = w := by
  have HA : Hid (∀ W, Calls Tryd.prog 21 #[.int .i64 a] W fun e w' => e = .returned (.float .f64 (bitsOf a)) ∧ w' = W) := fun W => rfloat_any a W
  have HB : Hid (∀ W, Calls Tryd.prog 21 #[.int .i64 b] W fun e w' => e = .returned (.float .f64 (bitsOf b)) ∧ w' = W) := fun W => rfloat_any b W
  generalize bitsOf a = x at *
  generalize bitsOf b = y at *
  go_enter Tryd.func38, Tryd.ntmps38
  go_wp2_with fail
  refine (HA.out _).mono ?_
  rintro e w' ⟨rfl, rfl⟩
  go_wp2_with fail
  refine (HB.out _).mono ?_
  rintro e w' ⟨rfl, rfl⟩
  go_wp2
  all_goals go_ret2
  all_goals exact ⟨rfl, rfl⟩

set_option maxRecDepth 100000 in
set_option maxHeartbeats 1000000 in
theorem rtwo_none (op a b : Int) (h : hasB op 2 = false) (w : World) : TwoC op a b 10 w := by
  have h20 : (op == 20) = false := beq_eq_false_iff_ne.2 (by rintro rfl; exact absurd h (by decide))
  have h21 : (op == 21) = false := beq_eq_false_iff_ne.2 (by rintro rfl; exact absurd h (by decide))
  have h22 : (op == 22) = false := beq_eq_false_iff_ne.2 (by rintro rfl; exact absurd h (by decide))
  have h23 : (op == 23) = false := beq_eq_false_iff_ne.2 (by rintro rfl; exact absurd h (by decide))
  have h24 : (op == 24) = false := beq_eq_false_iff_ne.2 (by rintro rfl; exact absurd h (by decide))
  have h25 : (op == 25) = false := beq_eq_false_iff_ne.2 (by rintro rfl; exact absurd h (by decide))
  have h26 : (op == 26) = false := beq_eq_false_iff_ne.2 (by rintro rfl; exact absurd h (by decide))
  have h27 : (op == 27) = false := beq_eq_false_iff_ne.2 (by rintro rfl; exact absurd h (by decide))
  have h28 : (op == 28) = false := beq_eq_false_iff_ne.2 (by rintro rfl; exact absurd h (by decide))
  have h29 : (op == 29) = false := beq_eq_false_iff_ne.2 (by rintro rfl; exact absurd h (by decide))
  have h30 : (op == 30) = false := beq_eq_false_iff_ne.2 (by rintro rfl; exact absurd h (by decide))
  have h31 : (op == 31) = false := beq_eq_false_iff_ne.2 (by rintro rfl; exact absurd h (by decide))
  have h32 : (op == 32) = false := beq_eq_false_iff_ne.2 (by rintro rfl; exact absurd h (by decide))
  have h33 : (op == 33) = false := beq_eq_false_iff_ne.2 (by rintro rfl; exact absurd h (by decide))
  have h36 : (op == 36) = false := beq_eq_false_iff_ne.2 (by rintro rfl; exact absurd h (by decide))
  have h37 : (op == 37) = false := beq_eq_false_iff_ne.2 (by rintro rfl; exact absurd h (by decide))
  have h38 : (op == 38) = false := beq_eq_false_iff_ne.2 (by rintro rfl; exact absurd h (by decide))
  have h39 : (op == 39) = false := beq_eq_false_iff_ne.2 (by rintro rfl; exact absurd h (by decide))
  have h40 : (op == 40) = false := beq_eq_false_iff_ne.2 (by rintro rfl; exact absurd h (by decide))
  have h41 : (op == 41) = false := beq_eq_false_iff_ne.2 (by rintro rfl; exact absurd h (by decide))
  have HF : Hid (∀ W, Calls Tryd.prog 38 #[.int .i64 op, .int .i64 a, .int .i64 b] W fun e w' => e = .returned (.tuple #[.int .i64 0, .int .i64 8]) ∧ w' = W) := fun W => rfl_none op a b h36 h37 h38 h39 h40 h41 W
  unfold TwoC
  rw [twoV_none a b h]
  clear h
  go_enter Tryd.func10, Tryd.ntmps10
  go_wp2_with fail
  refine (HF.out _).mono ?_
  rintro e w' ⟨rfl, rfl⟩
  go_wp2
  all_goals go_ret2
  all_goals exact ⟨rfl, 0, rfl⟩

theorem rtwo_any (op a b : Int) (ha : Wd a) (hb : Wd b) (w : World) : TwoC op a b 10 w := by
  cases h : hasB op 2
  · exact rtwo_none op a b h w
  · rcases has2_out h with rfl | rfl | rfl | rfl | rfl | rfl | rfl | rfl | rfl | rfl | rfl | rfl | rfl | rfl | rfl | rfl | rfl | rfl | rfl | rfl
    · exact rtwo_add a b ha hb w
    · exact rtwo_sub a b ha hb w
    · exact rtwo_mul a b ha hb w
    · exact rtwo_div a b ha hb w
    · exact rtwo_rem a b ha hb w
    · exact rtwo_and a b ha hb w
    · exact rtwo_or a b ha hb w
    · exact rtwo_xor a b ha hb w
    · exact rtwo_shl a b ha hb w
    · exact rtwo_shr a b ha hb w
    · exact rtwo_ushr a b ha hb w
    · exact rtwo_eq a b ha hb w
    · exact rtwo_lt a b ha hb w
    · exact rtwo_ult a b ha hb w
    · exact rtwo_fadd a b ha hb w
    · exact rtwo_fsub a b ha hb w
    · exact rtwo_fmul a b ha hb w
    · exact rtwo_fdiv a b ha hb w
    · exact rtwo_feq a b ha hb w
    · exact rtwo_flt a b ha hb w

theorem hasB2_eq (op : Int) : hasB op 2 = ((decide (20 ≤ op) && decide (op ≤ 33)) || (decide (36 ≤ op) && decide (op ≤ 41))) := by
  cases h : hasB op 2
  · have hk : ¬ ((20 ≤ op ∧ op ≤ 33) ∨ (36 ≤ op ∧ op ≤ 41)) := by
      intro hc
      have : op = 20 ∨ op = 21 ∨ op = 22 ∨ op = 23 ∨ op = 24 ∨ op = 25 ∨ op = 26 ∨ op = 27 ∨ op = 28 ∨ op = 29 ∨ op = 30 ∨ op = 31 ∨ op = 32 ∨ op = 33 ∨ op = 36 ∨ op = 37 ∨ op = 38 ∨ op = 39 ∨ op = 40 ∨ op = 41 := by omega
      rcases this with rfl | rfl | rfl | rfl | rfl | rfl | rfl | rfl | rfl | rfl | rfl | rfl | rfl | rfl | rfl | rfl | rfl | rfl | rfl | rfl <;> exact absurd h (by decide)
    symm
    rw [Bool.eq_false_iff]
    simp only [ne_eq, Bool.or_eq_true, Bool.and_eq_true, decide_eq_true_eq]
    exact hk
  · rcases has2_out h with rfl | rfl | rfl | rfl | rfl | rfl | rfl | rfl | rfl | rfl | rfl | rfl | rfl | rfl | rfl | rfl | rfl | rfl | rfl | rfl <;> rfl

set_option maxRecDepth 100000 in
set_option maxHeartbeats 1000000 in
theorem rhas2_any (op : Int) (w : World) :
    Calls Tryd.prog 12 #[.int .i64 op] w fun e w' => e = .returned (.bool (hasB op 2)) ∧ w' = w := by
  rw [hasB2_eq]
  obtain ⟨p1, g1⟩ : ∃ p, decide (20 ≤ op) = p := ⟨_, rfl⟩
  obtain ⟨p2, g2⟩ : ∃ p, decide (op ≤ 33) = p := ⟨_, rfl⟩
  obtain ⟨p3, g3⟩ : ∃ p, decide (36 ≤ op) = p := ⟨_, rfl⟩
  obtain ⟨p4, g4⟩ : ∃ p, decide (op ≤ 41) = p := ⟨_, rfl⟩
  rw [g1, g2, g3, g4]
  cases p1 <;> cases p2 <;> cases p3 <;> cases p4
  all_goals (
    go_enter Tryd.func12, Tryd.ntmps12
    go_wp2
    all_goals go_ret
    all_goals exact ⟨rfl, rfl⟩)
end Go.Proofs.YthiopkndbicmkaaDoor

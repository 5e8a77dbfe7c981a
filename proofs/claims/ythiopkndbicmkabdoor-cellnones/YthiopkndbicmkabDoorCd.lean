/-
  Two, of floats; all of it.
-/
import Derived.Test.YthiopkndbicmkabDoorCc
namespace Go.Proofs.YthiopkndbicmkabDoor
open Go.RowKit
set_option linter.unusedVariables false
set_option linter.unusedSimpArgs false

set_option maxRecDepth 100000 in
set_option maxHeartbeats 1000000 in
theorem two_fadd (a b : Int) (w : World) (hL : Laid w) : TwoC 36 a b 5 w := by
  have H : Hid (∀ W, Laid W → Calls Tryd.prog 11 #[.int .i64 36] W fun e w' => e = .returned (.bool true) ∧ ∃ q, w' = W.drewN q) := fun W h => has2_any 36 W h
  have HA : Hid (∀ W, Calls Tryd.prog 19 #[.int .i64 a] W fun e w' => e = .returned (.float .f64 (bitsOf a)) ∧ w' = W) := fun W => float_any a W
  have HB : Hid (∀ W, Calls Tryd.prog 19 #[.int .i64 b] W fun e w' => e = .returned (.float .f64 (bitsOf b)) ∧ w' = W) := fun W => float_any b W
  have HR : Hid (∀ W, Calls Tryd.prog 21 #[.int .i64 36, .float .f64 (bitsOf a), .float .f64 (bitsOf b)] W fun e w' => ∃ r, e = .returned (.float .f64 r) ∧ FRes .add (bitsOf a) (bitsOf b) r ∧ ∃ q, w' = W.drewN q) := fun W => reckoned_any 36 (bitsOf a) (bitsOf b) W
  have HW : Hid (∀ r W, Calls Tryd.prog 20 #[.float .f64 r] W fun e w' => e = .returned (.int .i64 (wordOf r)) ∧ w' = W) := fun r W => word_any r W
  unfold TwoC
  rw [show twoV 36 a b = (faW .add (bitsOf a) (bitsOf b), 0) from rfl]
  generalize bitsOf a = x at *
  generalize bitsOf b = y at *
  go_enter Tryd.func5, Tryd.ntmps5
  go_wp2_with fail
  refine (H.out _ hL).mono ?_
  rintro e w' ⟨rfl, q, rfl⟩
  go_wp2_with fail
  refine (HA.out _).mono ?_
  rintro e w' ⟨rfl, rfl⟩
  go_wp2_with fail
  refine (HB.out _).mono ?_
  rintro e w' ⟨rfl, rfl⟩
  go_wp2_with fail
  refine (HR.out _).mono ?_
  rintro e w' ⟨r, rfl, hf, q2, rfl⟩
  have hw := fres_word hf
  have HF := hid_of hw
  clear hf hw
  go_wp2_with fail
  refine (HW.out _ _).mono ?_
  rintro e w' ⟨rfl, rfl⟩
  rw [HF.out]
  go_wp2
  go_ret2
  exact ⟨rfl, _, rfl⟩

set_option maxRecDepth 100000 in
set_option maxHeartbeats 1000000 in
theorem two_fsub (a b : Int) (w : World) (hL : Laid w) : TwoC 37 a b 5 w := by
  have H : Hid (∀ W, Laid W → Calls Tryd.prog 11 #[.int .i64 37] W fun e w' => e = .returned (.bool true) ∧ ∃ q, w' = W.drewN q) := fun W h => has2_any 37 W h
  have HA : Hid (∀ W, Calls Tryd.prog 19 #[.int .i64 a] W fun e w' => e = .returned (.float .f64 (bitsOf a)) ∧ w' = W) := fun W => float_any a W
  have HB : Hid (∀ W, Calls Tryd.prog 19 #[.int .i64 b] W fun e w' => e = .returned (.float .f64 (bitsOf b)) ∧ w' = W) := fun W => float_any b W
  have HR : Hid (∀ W, Calls Tryd.prog 21 #[.int .i64 37, .float .f64 (bitsOf a), .float .f64 (bitsOf b)] W fun e w' => ∃ r, e = .returned (.float .f64 r) ∧ FRes .sub (bitsOf a) (bitsOf b) r ∧ ∃ q, w' = W.drewN q) := fun W => reckoned_any 37 (bitsOf a) (bitsOf b) W
  have HW : Hid (∀ r W, Calls Tryd.prog 20 #[.float .f64 r] W fun e w' => e = .returned (.int .i64 (wordOf r)) ∧ w' = W) := fun r W => word_any r W
  unfold TwoC
  rw [show twoV 37 a b = (faW .sub (bitsOf a) (bitsOf b), 0) from rfl]
  generalize bitsOf a = x at *
  generalize bitsOf b = y at *
  go_enter Tryd.func5, Tryd.ntmps5
  go_wp2_with fail
  refine (H.out _ hL).mono ?_
  rintro e w' ⟨rfl, q, rfl⟩
  go_wp2_with fail
  refine (HA.out _).mono ?_
  rintro e w' ⟨rfl, rfl⟩
  go_wp2_with fail
  refine (HB.out _).mono ?_
  rintro e w' ⟨rfl, rfl⟩
  go_wp2_with fail
  refine (HR.out _).mono ?_
  rintro e w' ⟨r, rfl, hf, q2, rfl⟩
  have hw := fres_word hf
  have HF := hid_of hw
  clear hf hw
  go_wp2_with fail
  refine (HW.out _ _).mono ?_
  rintro e w' ⟨rfl, rfl⟩
  rw [HF.out]
  go_wp2
  go_ret2
  exact ⟨rfl, _, rfl⟩

set_option maxRecDepth 100000 in
set_option maxHeartbeats 1000000 in
theorem two_fmul (a b : Int) (w : World) (hL : Laid w) : TwoC 38 a b 5 w := by
  have H : Hid (∀ W, Laid W → Calls Tryd.prog 11 #[.int .i64 38] W fun e w' => e = .returned (.bool true) ∧ ∃ q, w' = W.drewN q) := fun W h => has2_any 38 W h
  have HA : Hid (∀ W, Calls Tryd.prog 19 #[.int .i64 a] W fun e w' => e = .returned (.float .f64 (bitsOf a)) ∧ w' = W) := fun W => float_any a W
  have HB : Hid (∀ W, Calls Tryd.prog 19 #[.int .i64 b] W fun e w' => e = .returned (.float .f64 (bitsOf b)) ∧ w' = W) := fun W => float_any b W
  have HR : Hid (∀ W, Calls Tryd.prog 21 #[.int .i64 38, .float .f64 (bitsOf a), .float .f64 (bitsOf b)] W fun e w' => ∃ r, e = .returned (.float .f64 r) ∧ FRes .mul (bitsOf a) (bitsOf b) r ∧ ∃ q, w' = W.drewN q) := fun W => reckoned_any 38 (bitsOf a) (bitsOf b) W
  have HW : Hid (∀ r W, Calls Tryd.prog 20 #[.float .f64 r] W fun e w' => e = .returned (.int .i64 (wordOf r)) ∧ w' = W) := fun r W => word_any r W
  unfold TwoC
  rw [show twoV 38 a b = (faW .mul (bitsOf a) (bitsOf b), 0) from rfl]
  generalize bitsOf a = x at *
  generalize bitsOf b = y at *
  go_enter Tryd.func5, Tryd.ntmps5
  go_wp2_with fail
  refine (H.out _ hL).mono ?_
  rintro e w' ⟨rfl, q, rfl⟩
  go_wp2_with fail
  refine (HA.out _).mono ?_
  rintro e w' ⟨rfl, rfl⟩
  go_wp2_with fail
  refine (HB.out _).mono ?_
  rintro e w' ⟨rfl, rfl⟩
  go_wp2_with fail
  refine (HR.out _).mono ?_
  rintro e w' ⟨r, rfl, hf, q2, rfl⟩
  have hw := fres_word hf
  have HF := hid_of hw
  clear hf hw
  go_wp2_with fail
  refine (HW.out _ _).mono ?_
  rintro e w' ⟨rfl, rfl⟩
  rw [HF.out]
  go_wp2
  go_ret2
  exact ⟨rfl, _, rfl⟩

set_option maxRecDepth 100000 in
set_option maxHeartbeats 1000000 in
theorem two_fdiv (a b : Int) (w : World) (hL : Laid w) : TwoC 39 a b 5 w := by
  have H : Hid (∀ W, Laid W → Calls Tryd.prog 11 #[.int .i64 39] W fun e w' => e = .returned (.bool true) ∧ ∃ q, w' = W.drewN q) := fun W h => has2_any 39 W h
  have HA : Hid (∀ W, Calls Tryd.prog 19 #[.int .i64 a] W fun e w' => e = .returned (.float .f64 (bitsOf a)) ∧ w' = W) := fun W => float_any a W
  have HB : Hid (∀ W, Calls Tryd.prog 19 #[.int .i64 b] W fun e w' => e = .returned (.float .f64 (bitsOf b)) ∧ w' = W) := fun W => float_any b W
  have HR : Hid (∀ W, Calls Tryd.prog 21 #[.int .i64 39, .float .f64 (bitsOf a), .float .f64 (bitsOf b)] W fun e w' => ∃ r, e = .returned (.float .f64 r) ∧ FRes .quo (bitsOf a) (bitsOf b) r ∧ ∃ q, w' = W.drewN q) := fun W => reckoned_any 39 (bitsOf a) (bitsOf b) W
  have HW : Hid (∀ r W, Calls Tryd.prog 20 #[.float .f64 r] W fun e w' => e = .returned (.int .i64 (wordOf r)) ∧ w' = W) := fun r W => word_any r W
  unfold TwoC
  rw [show twoV 39 a b = (faW .quo (bitsOf a) (bitsOf b), 0) from rfl]
  generalize bitsOf a = x at *
  generalize bitsOf b = y at *
  go_enter Tryd.func5, Tryd.ntmps5
  go_wp2_with fail
  refine (H.out _ hL).mono ?_
  rintro e w' ⟨rfl, q, rfl⟩
  go_wp2_with fail
  refine (HA.out _).mono ?_
  rintro e w' ⟨rfl, rfl⟩
  go_wp2_with fail
  refine (HB.out _).mono ?_
  rintro e w' ⟨rfl, rfl⟩
  go_wp2_with fail
  refine (HR.out _).mono ?_
  rintro e w' ⟨r, rfl, hf, q2, rfl⟩
  have hw := fres_word hf
  have HF := hid_of hw
  clear hf hw
  go_wp2_with fail
  refine (HW.out _ _).mono ?_
  rintro e w' ⟨rfl, rfl⟩
  rw [HF.out]
  go_wp2
  go_ret2
  exact ⟨rfl, _, rfl⟩

set_option maxRecDepth 100000 in
set_option maxHeartbeats 1000000 in
theorem two_feq (a b : Int) (w : World) (hL : Laid w) : TwoC 40 a b 5 w := by
  have H : Hid (∀ W, Laid W → Calls Tryd.prog 11 #[.int .i64 40] W fun e w' => e = .returned (.bool true) ∧ ∃ q, w' = W.drewN q) := fun W h => has2_any 40 W h
  have HA : Hid (∀ W, Calls Tryd.prog 19 #[.int .i64 a] W fun e w' => e = .returned (.float .f64 (bitsOf a)) ∧ w' = W) := fun W => float_any a W
  have HB : Hid (∀ W, Calls Tryd.prog 19 #[.int .i64 b] W fun e w' => e = .returned (.float .f64 (bitsOf b)) ∧ w' = W) := fun W => float_any b W
  have HR : Hid (∀ W, Calls Tryd.prog 18 #[.int .i64 40, .float .f64 (bitsOf a), .float .f64 (bitsOf b)] W fun e w' => e = .returned (.bool (feqB (bitsOf a) (bitsOf b))) ∧ w' = W) := fun W => cmpf_eq (bitsOf a) (bitsOf b) W
  have HO : Hid (∀ W, Calls Tryd.prog 16 #[.bool (feqB (bitsOf a) (bitsOf b))] W fun e w' => e = .returned (.int .i64 (oneW (feqB (bitsOf a) (bitsOf b)))) ∧ w' = W) := fun W => oneif_any _ W
  unfold TwoC
  rw [show twoV 40 a b = (oneW (feqB (bitsOf a) (bitsOf b)), 0) from rfl]
  generalize feqB (bitsOf a) (bitsOf b) = bb at *
  generalize bitsOf a = x at *
  generalize bitsOf b = y at *
  go_enter Tryd.func5, Tryd.ntmps5
  go_wp2_with fail
  refine (H.out _ hL).mono ?_
  rintro e w' ⟨rfl, q, rfl⟩
  go_wp2_with fail
  refine (HA.out _).mono ?_
  rintro e w' ⟨rfl, rfl⟩
  go_wp2_with fail
  refine (HB.out _).mono ?_
  rintro e w' ⟨rfl, rfl⟩
  go_wp2_with fail
  refine (HR.out _).mono ?_
  rintro e w' ⟨rfl, rfl⟩
  go_wp2_with fail
  refine (HO.out _).mono ?_
  rintro e w' ⟨rfl, rfl⟩
  go_wp2
  go_ret2
  exact ⟨rfl, _, rfl⟩

set_option maxRecDepth 100000 in
set_option maxHeartbeats 1000000 in
theorem two_flt (a b : Int) (w : World) (hL : Laid w) : TwoC 41 a b 5 w := by
  have H : Hid (∀ W, Laid W → Calls Tryd.prog 11 #[.int .i64 41] W fun e w' => e = .returned (.bool true) ∧ ∃ q, w' = W.drewN q) := fun W h => has2_any 41 W h
  have HA : Hid (∀ W, Calls Tryd.prog 19 #[.int .i64 a] W fun e w' => e = .returned (.float .f64 (bitsOf a)) ∧ w' = W) := fun W => float_any a W
  have HB : Hid (∀ W, Calls Tryd.prog 19 #[.int .i64 b] W fun e w' => e = .returned (.float .f64 (bitsOf b)) ∧ w' = W) := fun W => float_any b W
  have HR : Hid (∀ W, Calls Tryd.prog 18 #[.int .i64 41, .float .f64 (bitsOf a), .float .f64 (bitsOf b)] W fun e w' => e = .returned (.bool (fltB (bitsOf a) (bitsOf b))) ∧ w' = W) := fun W => cmpf_lt (bitsOf a) (bitsOf b) W
  have HO : Hid (∀ W, Calls Tryd.prog 16 #[.bool (fltB (bitsOf a) (bitsOf b))] W fun e w' => e = .returned (.int .i64 (oneW (fltB (bitsOf a) (bitsOf b)))) ∧ w' = W) := fun W => oneif_any _ W
  unfold TwoC
  rw [show twoV 41 a b = (oneW (fltB (bitsOf a) (bitsOf b)), 0) from rfl]
  generalize fltB (bitsOf a) (bitsOf b) = bb at *
  generalize bitsOf a = x at *
  generalize bitsOf b = y at *
  go_enter Tryd.func5, Tryd.ntmps5
  go_wp2_with fail
  refine (H.out _ hL).mono ?_
  rintro e w' ⟨rfl, q, rfl⟩
  go_wp2_with fail
  refine (HA.out _).mono ?_
  rintro e w' ⟨rfl, rfl⟩
  go_wp2_with fail
  refine (HB.out _).mono ?_
  rintro e w' ⟨rfl, rfl⟩
  go_wp2_with fail
  refine (HR.out _).mono ?_
  rintro e w' ⟨rfl, rfl⟩
  go_wp2_with fail
  refine (HO.out _).mono ?_
  rintro e w' ⟨rfl, rfl⟩
  go_wp2
  go_ret2
  exact ⟨rfl, _, rfl⟩

theorem has2_out {op : Int} (h : hasB op 2 = true) : op = 20 ∨ op = 21 ∨ op = 22 ∨ op = 23 ∨ op = 24 ∨ op = 25 ∨ op = 26 ∨ op = 27 ∨ op = 28 ∨ op = 29 ∨ op = 30 ∨ op = 31 ∨ op = 32 ∨ op = 33 ∨ op = 36 ∨ op = 37 ∨ op = 38 ∨ op = 39 ∨ op = 40 ∨ op = 41 := by
  unfold hasB at h
  simp only [Bool.and_eq_true, decide_eq_true_eq, beq_iff_eq] at h
  obtain ⟨⟨h0, h1⟩, h2⟩ := h
  obtain ⟨n, rfl⟩ : ∃ n : Nat, op = (n : Int) := ⟨op.toNat, by omega⟩
  rw [Int.toNat_natCast] at h2
  have h3 : ∀ n, n < 46 → tk.getD n 0 = 2 → (20 ≤ n ∧ n ≤ 33) ∨ (36 ≤ n ∧ n ≤ 41) := by decide
  have := h3 n (by omega) h2
  omega

theorem twoV_none {op : Int} (a b : Int) (h : hasB op 2 = false) : twoV op a b = (0, 8) := by
  unfold twoV
  rw [if_neg (show ¬ op = 20 from by rintro rfl; exact absurd h (by decide)), if_neg (show ¬ op = 21 from by rintro rfl; exact absurd h (by decide)), if_neg (show ¬ op = 22 from by rintro rfl; exact absurd h (by decide)), if_neg (show ¬ op = 23 from by rintro rfl; exact absurd h (by decide)), if_neg (show ¬ op = 24 from by rintro rfl; exact absurd h (by decide)), if_neg (show ¬ op = 25 from by rintro rfl; exact absurd h (by decide)), if_neg (show ¬ op = 26 from by rintro rfl; exact absurd h (by decide)), if_neg (show ¬ op = 27 from by rintro rfl; exact absurd h (by decide)), if_neg (show ¬ op = 28 from by rintro rfl; exact absurd h (by decide)), if_neg (show ¬ op = 29 from by rintro rfl; exact absurd h (by decide)), if_neg (show ¬ op = 30 from by rintro rfl; exact absurd h (by decide)), if_neg (show ¬ op = 31 from by rintro rfl; exact absurd h (by decide)), if_neg (show ¬ op = 32 from by rintro rfl; exact absurd h (by decide)), if_neg (show ¬ op = 33 from by rintro rfl; exact absurd h (by decide)), if_neg (show ¬ op = 36 from by rintro rfl; exact absurd h (by decide)), if_neg (show ¬ op = 37 from by rintro rfl; exact absurd h (by decide)), if_neg (show ¬ op = 38 from by rintro rfl; exact absurd h (by decide)), if_neg (show ¬ op = 39 from by rintro rfl; exact absurd h (by decide)), if_neg (show ¬ op = 40 from by rintro rfl; exact absurd h (by decide)), if_neg (show ¬ op = 41 from by rintro rfl; exact absurd h (by decide))]

set_option maxRecDepth 100000 in
set_option maxHeartbeats 1000000 in
theorem two_none (op a b : Int) (h : hasB op 2 = false) (w : World) (hL : Laid w) : TwoC op a b 5 w := by
  have H : Hid (∀ W, Laid W → Calls Tryd.prog 11 #[.int .i64 op] W fun e w' => e = .returned (.bool false) ∧ ∃ q, w' = W.drewN q) := fun W hl => by
    have := has2_any op W hl
    rw [h] at this
    exact this
  unfold TwoC
  rw [twoV_none a b h]
  clear h
  go_enter Tryd.func5, Tryd.ntmps5
  go_wp2_with fail
  refine (H.out _ hL).mono ?_
  rintro e w' ⟨rfl, q, rfl⟩
  go_wp2
  go_ret2
  exact ⟨rfl, q, rfl⟩

theorem two_any (op a b : Int) (w : World) (hL : Laid w) : TwoC op a b 5 w := by
  cases h : hasB op 2
  · exact two_none op a b h w hL
  · rcases has2_out h with rfl | rfl | rfl | rfl | rfl | rfl | rfl | rfl | rfl | rfl | rfl | rfl | rfl | rfl | rfl | rfl | rfl | rfl | rfl | rfl
    · exact two_add a b w hL
    · exact two_sub a b w hL
    · exact two_mul a b w hL
    · exact two_div a b w hL
    · exact two_rem a b w hL
    · exact two_and a b w hL
    · exact two_or a b w hL
    · exact two_xor a b w hL
    · exact two_shl a b w hL
    · exact two_shr a b w hL
    · exact two_ushr a b w hL
    · exact two_eq a b w hL
    · exact two_lt a b w hL
    · exact two_ult a b w hL
    · exact two_fadd a b w hL
    · exact two_fsub a b w hL
    · exact two_fmul a b w hL
    · exact two_fdiv a b w hL
    · exact two_feq a b w hL
    · exact two_flt a b w hL

set_option maxRecDepth 100000 in
set_option maxHeartbeats 1000000 in
theorem law_two (op a b : Int) (w : World) (hL : Laid w) :
    Calls Tryd.prog 7 #[.int .i64 op, .int .i64 a, .int .i64 b] w fun e w' => e = .returned (.int .i64 (if (twoV op a b).2 = 0 then (twoV op a b).1 else -12345)) ∧ ∃ q, w' = w.drewN q := by
  have H : Hid (∀ W, Laid W → Calls Tryd.prog 5 #[.int .i64 op, .int .i64 a, .int .i64 b] W fun e w' => e = .returned (.tuple #[.int .i64 (twoV op a b).1, .int .i64 (twoV op a b).2]) ∧ ∃ q, w' = W.drewN q) := fun W hl => two_any op a b W hl
  generalize (twoV op a b).1 = v at *
  generalize (twoV op a b).2 = t at *
  by_cases ht : t = 0
  · subst ht
    rw [if_pos rfl]
    go_enter Tryd.func7, Tryd.ntmps7
    go_wp2_with fail
    refine (H.out _ hL).mono ?_
    rintro e w' ⟨rfl, q, rfl⟩
    go_wp2
    all_goals go_ret
    all_goals exact ⟨rfl, q, rfl⟩
  · rw [if_neg ht]
    have ht' : (t == 0) = false := by simpa using ht
    have ht2 : (t != 0) = true := by simpa using ht
    go_enter Tryd.func7, Tryd.ntmps7
    go_wp2_with fail
    refine (H.out _ hL).mono ?_
    rintro e w' ⟨rfl, q, rfl⟩
    go_wp2
    all_goals go_ret
    all_goals exact ⟨rfl, q, rfl⟩
end Go.Proofs.YthiopkndbicmkabDoor

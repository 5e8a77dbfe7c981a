import Derived.Test.YtpfmhibdmehlcaaGreatDoorTBa20
import Derived.Test.YtpfmhibdmehlcaaGreatDoorTBa4
namespace Go.Proofs.YtpfmhibdmehlcaaGreatDoor
open Go.RowKit
set_option linter.unusedVariables false
set_option linter.unusedSimpArgs false
set_option maxRecDepth 100000
theorem operand_ref (w : World) : ∀ k : Nat, k < 46 → Calls Tryz.prog 48 #[.int .i64 (k : Int)] w fun e w' => e = .returned (.int .i64 (kix k : Nat)) ∧ w' = w
 | 0, _ => by
  show Calls Tryz.prog 48 #[.int .i64 0] w fun e w' => e = .returned (.int .i64 (kix 0 : Nat)) ∧ w' = w
  go_enter Tryz.func48, Tryz.ntmps48
  go_wp2
  go_ret
  exact ⟨by kernel_rfl, rfl⟩
 | 1, _ => by
  show Calls Tryz.prog 48 #[.int .i64 1] w fun e w' => e = .returned (.int .i64 (kix 1 : Nat)) ∧ w' = w
  go_enter Tryz.func48, Tryz.ntmps48
  go_wp2
  go_ret
  exact ⟨by kernel_rfl, rfl⟩
 | 2, _ => by
  show Calls Tryz.prog 48 #[.int .i64 2] w fun e w' => e = .returned (.int .i64 (kix 2 : Nat)) ∧ w' = w
  go_enter Tryz.func48, Tryz.ntmps48
  go_wp2
  go_ret
  exact ⟨by kernel_rfl, rfl⟩
 | 3, _ => by
  show Calls Tryz.prog 48 #[.int .i64 3] w fun e w' => e = .returned (.int .i64 (kix 3 : Nat)) ∧ w' = w
  go_enter Tryz.func48, Tryz.ntmps48
  go_wp2
  go_ret
  exact ⟨by kernel_rfl, rfl⟩
 | 4, _ => by
  show Calls Tryz.prog 48 #[.int .i64 4] w fun e w' => e = .returned (.int .i64 (kix 4 : Nat)) ∧ w' = w
  go_enter Tryz.func48, Tryz.ntmps48
  go_wp2
  go_ret
  exact ⟨by kernel_rfl, rfl⟩
 | 5, _ => by
  show Calls Tryz.prog 48 #[.int .i64 5] w fun e w' => e = .returned (.int .i64 (kix 5 : Nat)) ∧ w' = w
  go_enter Tryz.func48, Tryz.ntmps48
  go_wp2
  go_ret
  exact ⟨by kernel_rfl, rfl⟩
 | 6, _ => by
  show Calls Tryz.prog 48 #[.int .i64 6] w fun e w' => e = .returned (.int .i64 (kix 6 : Nat)) ∧ w' = w
  go_enter Tryz.func48, Tryz.ntmps48
  go_wp2
  go_ret
  exact ⟨by kernel_rfl, rfl⟩
 | 7, _ => by
  show Calls Tryz.prog 48 #[.int .i64 7] w fun e w' => e = .returned (.int .i64 (kix 7 : Nat)) ∧ w' = w
  go_enter Tryz.func48, Tryz.ntmps48
  go_wp2
  go_ret
  exact ⟨by kernel_rfl, rfl⟩
 | 8, _ => by
  show Calls Tryz.prog 48 #[.int .i64 8] w fun e w' => e = .returned (.int .i64 (kix 8 : Nat)) ∧ w' = w
  go_enter Tryz.func48, Tryz.ntmps48
  go_wp2
  go_ret
  exact ⟨by kernel_rfl, rfl⟩
 | 9, _ => by
  show Calls Tryz.prog 48 #[.int .i64 9] w fun e w' => e = .returned (.int .i64 (kix 9 : Nat)) ∧ w' = w
  go_enter Tryz.func48, Tryz.ntmps48
  go_wp2
  go_ret
  exact ⟨by kernel_rfl, rfl⟩
 | 10, _ => by
  show Calls Tryz.prog 48 #[.int .i64 10] w fun e w' => e = .returned (.int .i64 (kix 10 : Nat)) ∧ w' = w
  go_enter Tryz.func48, Tryz.ntmps48
  go_wp2
  go_ret
  exact ⟨by kernel_rfl, rfl⟩
 | 11, _ => by
  show Calls Tryz.prog 48 #[.int .i64 11] w fun e w' => e = .returned (.int .i64 (kix 11 : Nat)) ∧ w' = w
  go_enter Tryz.func48, Tryz.ntmps48
  go_wp2
  go_ret
  exact ⟨by kernel_rfl, rfl⟩
 | 12, _ => by
  show Calls Tryz.prog 48 #[.int .i64 12] w fun e w' => e = .returned (.int .i64 (kix 12 : Nat)) ∧ w' = w
  go_enter Tryz.func48, Tryz.ntmps48
  go_wp2
  go_ret
  exact ⟨by kernel_rfl, rfl⟩
 | 13, _ => by
  show Calls Tryz.prog 48 #[.int .i64 13] w fun e w' => e = .returned (.int .i64 (kix 13 : Nat)) ∧ w' = w
  go_enter Tryz.func48, Tryz.ntmps48
  go_wp2
  go_ret
  exact ⟨by kernel_rfl, rfl⟩
 | 14, _ => by
  show Calls Tryz.prog 48 #[.int .i64 14] w fun e w' => e = .returned (.int .i64 (kix 14 : Nat)) ∧ w' = w
  go_enter Tryz.func48, Tryz.ntmps48
  go_wp2
  go_ret
  exact ⟨by kernel_rfl, rfl⟩
 | 15, _ => by
  show Calls Tryz.prog 48 #[.int .i64 15] w fun e w' => e = .returned (.int .i64 (kix 15 : Nat)) ∧ w' = w
  go_enter Tryz.func48, Tryz.ntmps48
  go_wp2
  go_ret
  exact ⟨by kernel_rfl, rfl⟩
 | 16, _ => by
  show Calls Tryz.prog 48 #[.int .i64 16] w fun e w' => e = .returned (.int .i64 (kix 16 : Nat)) ∧ w' = w
  go_enter Tryz.func48, Tryz.ntmps48
  go_wp2
  go_ret
  exact ⟨by kernel_rfl, rfl⟩
 | 17, _ => by
  show Calls Tryz.prog 48 #[.int .i64 17] w fun e w' => e = .returned (.int .i64 (kix 17 : Nat)) ∧ w' = w
  go_enter Tryz.func48, Tryz.ntmps48
  go_wp2
  go_ret
  exact ⟨by kernel_rfl, rfl⟩
 | 18, _ => by
  show Calls Tryz.prog 48 #[.int .i64 18] w fun e w' => e = .returned (.int .i64 (kix 18 : Nat)) ∧ w' = w
  go_enter Tryz.func48, Tryz.ntmps48
  go_wp2
  go_ret
  exact ⟨by kernel_rfl, rfl⟩
 | 19, _ => by
  show Calls Tryz.prog 48 #[.int .i64 19] w fun e w' => e = .returned (.int .i64 (kix 19 : Nat)) ∧ w' = w
  go_enter Tryz.func48, Tryz.ntmps48
  go_wp2
  go_ret
  exact ⟨by kernel_rfl, rfl⟩
 | 20, _ => by
  show Calls Tryz.prog 48 #[.int .i64 20] w fun e w' => e = .returned (.int .i64 (kix 20 : Nat)) ∧ w' = w
  go_enter Tryz.func48, Tryz.ntmps48
  go_wp2
  go_ret
  exact ⟨by kernel_rfl, rfl⟩
 | 21, _ => by
  show Calls Tryz.prog 48 #[.int .i64 21] w fun e w' => e = .returned (.int .i64 (kix 21 : Nat)) ∧ w' = w
  go_enter Tryz.func48, Tryz.ntmps48
  go_wp2
  go_ret
  exact ⟨by kernel_rfl, rfl⟩
 | 22, _ => by
  show Calls Tryz.prog 48 #[.int .i64 22] w fun e w' => e = .returned (.int .i64 (kix 22 : Nat)) ∧ w' = w
  go_enter Tryz.func48, Tryz.ntmps48
  go_wp2
  go_ret
  exact ⟨by kernel_rfl, rfl⟩
 | 23, _ => by
  show Calls Tryz.prog 48 #[.int .i64 23] w fun e w' => e = .returned (.int .i64 (kix 23 : Nat)) ∧ w' = w
  go_enter Tryz.func48, Tryz.ntmps48
  go_wp2
  go_ret
  exact ⟨by kernel_rfl, rfl⟩
 | 24, _ => by
  show Calls Tryz.prog 48 #[.int .i64 24] w fun e w' => e = .returned (.int .i64 (kix 24 : Nat)) ∧ w' = w
  go_enter Tryz.func48, Tryz.ntmps48
  go_wp2
  go_ret
  exact ⟨by kernel_rfl, rfl⟩
 | 25, _ => by
  show Calls Tryz.prog 48 #[.int .i64 25] w fun e w' => e = .returned (.int .i64 (kix 25 : Nat)) ∧ w' = w
  go_enter Tryz.func48, Tryz.ntmps48
  go_wp2
  go_ret
  exact ⟨by kernel_rfl, rfl⟩
 | 26, _ => by
  show Calls Tryz.prog 48 #[.int .i64 26] w fun e w' => e = .returned (.int .i64 (kix 26 : Nat)) ∧ w' = w
  go_enter Tryz.func48, Tryz.ntmps48
  go_wp2
  go_ret
  exact ⟨by kernel_rfl, rfl⟩
 | 27, _ => by
  show Calls Tryz.prog 48 #[.int .i64 27] w fun e w' => e = .returned (.int .i64 (kix 27 : Nat)) ∧ w' = w
  go_enter Tryz.func48, Tryz.ntmps48
  go_wp2
  go_ret
  exact ⟨by kernel_rfl, rfl⟩
 | 28, _ => by
  show Calls Tryz.prog 48 #[.int .i64 28] w fun e w' => e = .returned (.int .i64 (kix 28 : Nat)) ∧ w' = w
  go_enter Tryz.func48, Tryz.ntmps48
  go_wp2
  go_ret
  exact ⟨by kernel_rfl, rfl⟩
 | 29, _ => by
  show Calls Tryz.prog 48 #[.int .i64 29] w fun e w' => e = .returned (.int .i64 (kix 29 : Nat)) ∧ w' = w
  go_enter Tryz.func48, Tryz.ntmps48
  go_wp2
  go_ret
  exact ⟨by kernel_rfl, rfl⟩
 | 30, _ => by
  show Calls Tryz.prog 48 #[.int .i64 30] w fun e w' => e = .returned (.int .i64 (kix 30 : Nat)) ∧ w' = w
  go_enter Tryz.func48, Tryz.ntmps48
  go_wp2
  go_ret
  exact ⟨by kernel_rfl, rfl⟩
 | 31, _ => by
  show Calls Tryz.prog 48 #[.int .i64 31] w fun e w' => e = .returned (.int .i64 (kix 31 : Nat)) ∧ w' = w
  go_enter Tryz.func48, Tryz.ntmps48
  go_wp2
  go_ret
  exact ⟨by kernel_rfl, rfl⟩
 | 32, _ => by
  show Calls Tryz.prog 48 #[.int .i64 32] w fun e w' => e = .returned (.int .i64 (kix 32 : Nat)) ∧ w' = w
  go_enter Tryz.func48, Tryz.ntmps48
  go_wp2
  go_ret
  exact ⟨by kernel_rfl, rfl⟩
 | 33, _ => by
  show Calls Tryz.prog 48 #[.int .i64 33] w fun e w' => e = .returned (.int .i64 (kix 33 : Nat)) ∧ w' = w
  go_enter Tryz.func48, Tryz.ntmps48
  go_wp2
  go_ret
  exact ⟨by kernel_rfl, rfl⟩
 | 34, _ => by
  show Calls Tryz.prog 48 #[.int .i64 34] w fun e w' => e = .returned (.int .i64 (kix 34 : Nat)) ∧ w' = w
  go_enter Tryz.func48, Tryz.ntmps48
  go_wp2
  go_ret
  exact ⟨by kernel_rfl, rfl⟩
 | 35, _ => by
  show Calls Tryz.prog 48 #[.int .i64 35] w fun e w' => e = .returned (.int .i64 (kix 35 : Nat)) ∧ w' = w
  go_enter Tryz.func48, Tryz.ntmps48
  go_wp2
  go_ret
  exact ⟨by kernel_rfl, rfl⟩
 | 36, _ => by
  show Calls Tryz.prog 48 #[.int .i64 36] w fun e w' => e = .returned (.int .i64 (kix 36 : Nat)) ∧ w' = w
  go_enter Tryz.func48, Tryz.ntmps48
  go_wp2
  go_ret
  exact ⟨by kernel_rfl, rfl⟩
 | 37, _ => by
  show Calls Tryz.prog 48 #[.int .i64 37] w fun e w' => e = .returned (.int .i64 (kix 37 : Nat)) ∧ w' = w
  go_enter Tryz.func48, Tryz.ntmps48
  go_wp2
  go_ret
  exact ⟨by kernel_rfl, rfl⟩
 | 38, _ => by
  show Calls Tryz.prog 48 #[.int .i64 38] w fun e w' => e = .returned (.int .i64 (kix 38 : Nat)) ∧ w' = w
  go_enter Tryz.func48, Tryz.ntmps48
  go_wp2
  go_ret
  exact ⟨by kernel_rfl, rfl⟩
 | 39, _ => by
  show Calls Tryz.prog 48 #[.int .i64 39] w fun e w' => e = .returned (.int .i64 (kix 39 : Nat)) ∧ w' = w
  go_enter Tryz.func48, Tryz.ntmps48
  go_wp2
  go_ret
  exact ⟨by kernel_rfl, rfl⟩
 | 40, _ => by
  show Calls Tryz.prog 48 #[.int .i64 40] w fun e w' => e = .returned (.int .i64 (kix 40 : Nat)) ∧ w' = w
  go_enter Tryz.func48, Tryz.ntmps48
  go_wp2
  go_ret
  exact ⟨by kernel_rfl, rfl⟩
 | 41, _ => by
  show Calls Tryz.prog 48 #[.int .i64 41] w fun e w' => e = .returned (.int .i64 (kix 41 : Nat)) ∧ w' = w
  go_enter Tryz.func48, Tryz.ntmps48
  go_wp2
  go_ret
  exact ⟨by kernel_rfl, rfl⟩
 | 42, _ => by
  show Calls Tryz.prog 48 #[.int .i64 42] w fun e w' => e = .returned (.int .i64 (kix 42 : Nat)) ∧ w' = w
  go_enter Tryz.func48, Tryz.ntmps48
  go_wp2
  go_ret
  exact ⟨by kernel_rfl, rfl⟩
 | 43, _ => by
  show Calls Tryz.prog 48 #[.int .i64 43] w fun e w' => e = .returned (.int .i64 (kix 43 : Nat)) ∧ w' = w
  go_enter Tryz.func48, Tryz.ntmps48
  go_wp2
  go_ret
  exact ⟨by kernel_rfl, rfl⟩
 | 44, _ => by
  show Calls Tryz.prog 48 #[.int .i64 44] w fun e w' => e = .returned (.int .i64 (kix 44 : Nat)) ∧ w' = w
  go_enter Tryz.func48, Tryz.ntmps48
  go_wp2
  go_ret
  exact ⟨by kernel_rfl, rfl⟩
 | 45, _ => by
  show Calls Tryz.prog 48 #[.int .i64 45] w fun e w' => e = .returned (.int .i64 (kix 45 : Nat)) ∧ w' = w
  go_enter Tryz.func48, Tryz.ntmps48
  go_wp2
  go_ret
  exact ⟨by kernel_rfl, rfl⟩
 | k + 46, h => absurd h (by omega)
theorem may_ref0 (a : Int) (w : World) : Calls Tryz.prog 33 #[.int .i64 0, .int .i64 a] w fun e w' => e = .returned (.bool (mayP 0 a)) ∧ w' = w := by
 go_enter Tryz.func33, Tryz.ntmps33
 go_wp2
 go_ret
 exact ⟨rfl, rfl⟩
theorem may_ref1 (a : Int) (w : World) : Calls Tryz.prog 33 #[.int .i64 1, .int .i64 a] w fun e w' => e = .returned (.bool (mayP 1 a)) ∧ w' = w := by
 go_enter Tryz.func33, Tryz.ntmps33
 go_wp2
 go_ret
 exact ⟨rfl, rfl⟩
theorem may_ref2 (a : Int) (w : World) : Calls Tryz.prog 33 #[.int .i64 2, .int .i64 a] w fun e w' => e = .returned (.bool (mayP 2 a)) ∧ w' = w := by
 have HM : Hid (mayP 2 a = (decide (0 ≤ a) && decide (a < endOf 2))) := rfl
 by_cases h : 0 ≤ a
 ·have HV : Hid (mayP 2 a = decide (a < endOf 2)) := by unfold Hid; rw [HM.out]; simp [h]
  go_enter Tryz.func33, Tryz.ntmps33
  go_wp2
  go_ret
  exact ⟨by rw [HV.out]; rfl, rfl⟩
 ·have HV : Hid (mayP 2 a = false) := by unfold Hid; rw [HM.out]; simp [h]
  go_enter Tryz.func33, Tryz.ntmps33
  go_wp2
  go_ret
  exact ⟨by rw [HV.out]; rfl, rfl⟩
theorem may_ref3 (a : Int) (w : World) : Calls Tryz.prog 33 #[.int .i64 3, .int .i64 a] w fun e w' => e = .returned (.bool (mayP 3 a)) ∧ w' = w := by
 have HM : Hid (mayP 3 a = (decide (0 ≤ a) && decide (a < endOf 3))) := rfl
 by_cases h : 0 ≤ a
 ·have HV : Hid (mayP 3 a = decide (a < endOf 3)) := by unfold Hid; rw [HM.out]; simp [h]
  go_enter Tryz.func33, Tryz.ntmps33
  go_wp2
  go_ret
  exact ⟨by rw [HV.out]; rfl, rfl⟩
 ·have HV : Hid (mayP 3 a = false) := by unfold Hid; rw [HM.out]; simp [h]
  go_enter Tryz.func33, Tryz.ntmps33
  go_wp2
  go_ret
  exact ⟨by rw [HV.out]; rfl, rfl⟩
theorem may_ref4 (a : Int) (w : World) : Calls Tryz.prog 33 #[.int .i64 4, .int .i64 a] w fun e w' => e = .returned (.bool (mayP 4 a)) ∧ w' = w := by
 have HM : Hid (mayP 4 a = (decide (0 ≤ a) && decide (a < endOf 4))) := rfl
 by_cases h : 0 ≤ a
 ·have HV : Hid (mayP 4 a = decide (a < endOf 4)) := by unfold Hid; rw [HM.out]; simp [h]
  go_enter Tryz.func33, Tryz.ntmps33
  go_wp2
  go_ret
  exact ⟨by rw [HV.out]; rfl, rfl⟩
 ·have HV : Hid (mayP 4 a = false) := by unfold Hid; rw [HM.out]; simp [h]
  go_enter Tryz.func33, Tryz.ntmps33
  go_wp2
  go_ret
  exact ⟨by rw [HV.out]; rfl, rfl⟩
theorem may_ref5 (a : Int) (w : World) : Calls Tryz.prog 33 #[.int .i64 5, .int .i64 a] w fun e w' => e = .returned (.bool (mayP 5 a)) ∧ w' = w := by
 have HM : Hid (mayP 5 a = (decide (0 ≤ a) && decide (a < endOf 5))) := rfl
 by_cases h : 0 ≤ a
 ·have HV : Hid (mayP 5 a = decide (a < endOf 5)) := by unfold Hid; rw [HM.out]; simp [h]
  go_enter Tryz.func33, Tryz.ntmps33
  go_wp2
  go_ret
  exact ⟨by rw [HV.out]; rfl, rfl⟩
 ·have HV : Hid (mayP 5 a = false) := by unfold Hid; rw [HM.out]; simp [h]
  go_enter Tryz.func33, Tryz.ntmps33
  go_wp2
  go_ret
  exact ⟨by rw [HV.out]; rfl, rfl⟩
theorem may_ref6 (a : Int) (w : World) : Calls Tryz.prog 33 #[.int .i64 6, .int .i64 a] w fun e w' => e = .returned (.bool (mayP 6 a)) ∧ w' = w := by
 have HM : Hid (mayP 6 a = (decide (0 ≤ a) && decide (a < endOf 6))) := rfl
 by_cases h : 0 ≤ a
 ·have HV : Hid (mayP 6 a = decide (a < endOf 6)) := by unfold Hid; rw [HM.out]; simp [h]
  go_enter Tryz.func33, Tryz.ntmps33
  go_wp2
  go_ret
  exact ⟨by rw [HV.out]; rfl, rfl⟩
 ·have HV : Hid (mayP 6 a = false) := by unfold Hid; rw [HM.out]; simp [h]
  go_enter Tryz.func33, Tryz.ntmps33
  go_wp2
  go_ret
  exact ⟨by rw [HV.out]; rfl, rfl⟩
theorem may_ref (a : Int) (w : World) : ∀ k : Nat, k ≤ 6 → Calls Tryz.prog 33 #[.int .i64 (k : Int), .int .i64 a] w fun e w' => e = .returned (.bool (mayP k a)) ∧ w' = w
 | 0, _ => may_ref0 a w
 | 1, _ => may_ref1 a w
 | 2, _ => may_ref2 a w
 | 3, _ => may_ref3 a w
 | 4, _ => may_ref4 a w
 | 5, _ => may_ref5 a w
 | 6, _ => may_ref6 a w
 | k + 7, h => absurd h (by omega)
end Go.Proofs.YtpfmhibdmehlcaaGreatDoor

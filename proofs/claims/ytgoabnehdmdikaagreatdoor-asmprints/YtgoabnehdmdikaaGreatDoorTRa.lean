/-
  TRa: Ra, Rb, Rc, Rd, Re, Rsy.
-/
import Derived.Test.YtgoabnehdmdikaaGreatDoorTObx
import Derived.Deep.Strs
import Derived.Laws.IdiomStrings
import Derived.Test.YtgoabnehdmdikaaGreatDoorTOlx
namespace Go.Proofs.YtgoabnehdmdikaaGreatDoor
open Go.RowKit
set_option linter.unusedVariables false
set_option linter.unusedSimpArgs false
set_option maxRecDepth 100000

/-- The n-th of words with a blank behind each, from a place on. -/
def wordF (s : ByteArray) : Nat → Nat → Nat → Nat → ByteArray
  | 0, _, _, _ => ⟨#[]⟩
  | f + 1, n, fr, i => if i < s.size then (if (s.data[i]?.getD 0).toNat ≠ 32 then wordF s f n fr (i + 1) else if n = 0 then s.extract fr i else wordF s f (n - 1) (i + 1) (i + 1)) else ⟨#[]⟩
def wordP (s : ByteArray) (n : Nat) : ByteArray := wordF s (s.size + 1) n 0 0
theorem wordF_succ (s : ByteArray) (f n fr i : Nat) : wordF s (f + 1) n fr i = if i < s.size then (if (s.data[i]?.getD 0).toNat ≠ 32 then wordF s f n fr (i + 1) else if n = 0 then s.extract fr i else wordF s f (n - 1) (i + 1) (i + 1)) else ⟨#[]⟩ := rfl

set_option maxHeartbeats 4000000 in
theorem word_any (s : ByteArray) (n : Nat) (w : World) (hs : s.size ≤ 1000) (hn : n ≤ 1000) :
    Calls Tryz.prog 49 #[.string s, .int .i64 (n : Int)] w fun e w' => e = .returned (.string (wordP s n)) ∧ w' = w := by
  have HP : Hid (wordP s n = wordF s (s.size + 1) n 0 0) := rfl
  generalize wordP s n = r at *
  go_enter Tryz.func49, Tryz.ntmps49
  go_wp2
  go_loopw [1, 5, 6] (fun nv fv iv wr => ∃ (m fr i : Nat), m ≤ 1000 ∧ fr ≤ i ∧ i ≤ s.size ∧ nv = .int .i64 (m : Int) ∧ fv = .int .i64 (fr : Int) ∧ iv = .int .i64 (i : Int) ∧ r = wordF s (s.size + 1 - i) m fr i ∧ wr = w) (fun _ _ iv _ => s.size - (intOf iv).toNat)
  case atStart => exact ⟨n, 0, 0, hn, by omega, by omega, rfl, rfl, rfl, HP.out, rfl⟩
  case round =>
    obtain ⟨m, fr, i, hm, hfi, hi, rfl, rfl, rfl, hr, rfl⟩ := hrel
    clear HP
    by_cases hlt : i < s.size
    · have hiI : (i : Int) < (s.size : Int) := by omega
      rw [show s.size + 1 - i = (s.size - i) + 1 by omega, wordF_succ, if_pos hlt] at hr
      have hd : (s.data[i]?.getD 0).toNat = (s[i]'hlt).toNat := by
        have : i < s.data.size := hlt
        simp [Array.getElem?_eq_getElem this]
        rfl
      rw [hd] at hr
      by_cases hb : (s[i]'hlt).toNat = 32
      · rw [if_neg (by omega)] at hr
        have hbI : (((s[i]'hlt).toNat : Int) != 32) = false := by simp [hb]
        by_cases h0 : m = 0
        · rw [if_pos h0] at hr
          have HR := hid_of hr
          subst h0
          clear hr hd
          go_wp2
          go_ret
          exact ⟨by rw [HR.out]; rfl, rfl⟩
        · rw [if_neg h0] at hr
          have h0I : ((m : Int) == 0) = false := by simp [h0]
          have HR := hid_of hr
          clear hr hd
          go_wp2
          go_roundw
          case rel => exact ⟨m - 1, i + 1, i + 1, by omega, by omega, by omega, by congr 1; go_num, by go_num, by go_num, by rw [show s.size + 1 - (i + 1) = s.size - i by omega]; exact HR.out, trivial⟩
          case measure => simp [intOf]; omega
      · rw [if_pos hb] at hr
        have hbI : (((s[i]'hlt).toNat : Int) != 32) = true := by simp; omega
        have HR := hid_of hr
        clear hr hd
        go_wp2
        go_roundw
        case rel => exact ⟨m, fr, i + 1, hm, by omega, by omega, rfl, rfl, by go_num, by rw [show s.size + 1 - (i + 1) = s.size - i by omega]; exact HR.out, trivial⟩
        case measure => simp [intOf]; omega
    · have hiI : (s.size : Int) ≤ (i : Int) := by omega
      rw [show s.size + 1 - i = (s.size - i) + 1 by omega, wordF_succ, if_neg hlt] at hr
      have HR := hid_of hr
      clear hr
      go_wp2
      go_ret
      exact ⟨by rw [HR.out]; rfl, rfl⟩
theorem word_is (s : ByteArray) (n : Nat) (r : ByteArray) (w : World) (hs : s.size ≤ 1000) (hn : n ≤ 1000) (hr : wordP s n = r) :
    Calls Tryz.prog 49 #[.string s, .int .i64 (n : Int)] w fun e w' => e = .returned (.string r) ∧ w' = w := by
  rw [← hr]
  exact word_any s n w hs hn
end Go.Proofs.YtgoabnehdmdikaaGreatDoor

namespace Go.Proofs.YtgoabnehdmdikaaGreatDoor
open Go.RowKit
set_option linter.unusedVariables false
set_option linter.unusedSimpArgs false
set_option maxRecDepth 100000

theorem operand_ref (w : World) : ∀ k : Nat, k < 46 → Calls Tryz.prog 32 #[.int .i64 (k : Int)] w fun e w' => e = .returned (.int .i64 (kix k : Nat)) ∧ w' = w
  | 0, _ => by
    show Calls Tryz.prog 32 #[.int .i64 0] w fun e w' => e = .returned (.int .i64 (kix 0 : Nat)) ∧ w' = w
    go_enter Tryz.func32, Tryz.ntmps32
    go_wp2
    go_ret
    exact ⟨by kernel_rfl, rfl⟩
  | 1, _ => by
    show Calls Tryz.prog 32 #[.int .i64 1] w fun e w' => e = .returned (.int .i64 (kix 1 : Nat)) ∧ w' = w
    go_enter Tryz.func32, Tryz.ntmps32
    go_wp2
    go_ret
    exact ⟨by kernel_rfl, rfl⟩
  | 2, _ => by
    show Calls Tryz.prog 32 #[.int .i64 2] w fun e w' => e = .returned (.int .i64 (kix 2 : Nat)) ∧ w' = w
    go_enter Tryz.func32, Tryz.ntmps32
    go_wp2
    go_ret
    exact ⟨by kernel_rfl, rfl⟩
  | 3, _ => by
    show Calls Tryz.prog 32 #[.int .i64 3] w fun e w' => e = .returned (.int .i64 (kix 3 : Nat)) ∧ w' = w
    go_enter Tryz.func32, Tryz.ntmps32
    go_wp2
    go_ret
    exact ⟨by kernel_rfl, rfl⟩
  | 4, _ => by
    show Calls Tryz.prog 32 #[.int .i64 4] w fun e w' => e = .returned (.int .i64 (kix 4 : Nat)) ∧ w' = w
    go_enter Tryz.func32, Tryz.ntmps32
    go_wp2
    go_ret
    exact ⟨by kernel_rfl, rfl⟩
  | 5, _ => by
    show Calls Tryz.prog 32 #[.int .i64 5] w fun e w' => e = .returned (.int .i64 (kix 5 : Nat)) ∧ w' = w
    go_enter Tryz.func32, Tryz.ntmps32
    go_wp2
    go_ret
    exact ⟨by kernel_rfl, rfl⟩
  | 6, _ => by
    show Calls Tryz.prog 32 #[.int .i64 6] w fun e w' => e = .returned (.int .i64 (kix 6 : Nat)) ∧ w' = w
    go_enter Tryz.func32, Tryz.ntmps32
    go_wp2
    go_ret
    exact ⟨by kernel_rfl, rfl⟩
  | 7, _ => by
    show Calls Tryz.prog 32 #[.int .i64 7] w fun e w' => e = .returned (.int .i64 (kix 7 : Nat)) ∧ w' = w
    go_enter Tryz.func32, Tryz.ntmps32
    go_wp2
    go_ret
    exact ⟨by kernel_rfl, rfl⟩
  | 8, _ => by
    show Calls Tryz.prog 32 #[.int .i64 8] w fun e w' => e = .returned (.int .i64 (kix 8 : Nat)) ∧ w' = w
    go_enter Tryz.func32, Tryz.ntmps32
    go_wp2
    go_ret
    exact ⟨by kernel_rfl, rfl⟩
  | 9, _ => by
    show Calls Tryz.prog 32 #[.int .i64 9] w fun e w' => e = .returned (.int .i64 (kix 9 : Nat)) ∧ w' = w
    go_enter Tryz.func32, Tryz.ntmps32
    go_wp2
    go_ret
    exact ⟨by kernel_rfl, rfl⟩
  | 10, _ => by
    show Calls Tryz.prog 32 #[.int .i64 10] w fun e w' => e = .returned (.int .i64 (kix 10 : Nat)) ∧ w' = w
    go_enter Tryz.func32, Tryz.ntmps32
    go_wp2
    go_ret
    exact ⟨by kernel_rfl, rfl⟩
  | 11, _ => by
    show Calls Tryz.prog 32 #[.int .i64 11] w fun e w' => e = .returned (.int .i64 (kix 11 : Nat)) ∧ w' = w
    go_enter Tryz.func32, Tryz.ntmps32
    go_wp2
    go_ret
    exact ⟨by kernel_rfl, rfl⟩
  | 12, _ => by
    show Calls Tryz.prog 32 #[.int .i64 12] w fun e w' => e = .returned (.int .i64 (kix 12 : Nat)) ∧ w' = w
    go_enter Tryz.func32, Tryz.ntmps32
    go_wp2
    go_ret
    exact ⟨by kernel_rfl, rfl⟩
  | 13, _ => by
    show Calls Tryz.prog 32 #[.int .i64 13] w fun e w' => e = .returned (.int .i64 (kix 13 : Nat)) ∧ w' = w
    go_enter Tryz.func32, Tryz.ntmps32
    go_wp2
    go_ret
    exact ⟨by kernel_rfl, rfl⟩
  | 14, _ => by
    show Calls Tryz.prog 32 #[.int .i64 14] w fun e w' => e = .returned (.int .i64 (kix 14 : Nat)) ∧ w' = w
    go_enter Tryz.func32, Tryz.ntmps32
    go_wp2
    go_ret
    exact ⟨by kernel_rfl, rfl⟩
  | 15, _ => by
    show Calls Tryz.prog 32 #[.int .i64 15] w fun e w' => e = .returned (.int .i64 (kix 15 : Nat)) ∧ w' = w
    go_enter Tryz.func32, Tryz.ntmps32
    go_wp2
    go_ret
    exact ⟨by kernel_rfl, rfl⟩
  | 16, _ => by
    show Calls Tryz.prog 32 #[.int .i64 16] w fun e w' => e = .returned (.int .i64 (kix 16 : Nat)) ∧ w' = w
    go_enter Tryz.func32, Tryz.ntmps32
    go_wp2
    go_ret
    exact ⟨by kernel_rfl, rfl⟩
  | 17, _ => by
    show Calls Tryz.prog 32 #[.int .i64 17] w fun e w' => e = .returned (.int .i64 (kix 17 : Nat)) ∧ w' = w
    go_enter Tryz.func32, Tryz.ntmps32
    go_wp2
    go_ret
    exact ⟨by kernel_rfl, rfl⟩
  | 18, _ => by
    show Calls Tryz.prog 32 #[.int .i64 18] w fun e w' => e = .returned (.int .i64 (kix 18 : Nat)) ∧ w' = w
    go_enter Tryz.func32, Tryz.ntmps32
    go_wp2
    go_ret
    exact ⟨by kernel_rfl, rfl⟩
  | 19, _ => by
    show Calls Tryz.prog 32 #[.int .i64 19] w fun e w' => e = .returned (.int .i64 (kix 19 : Nat)) ∧ w' = w
    go_enter Tryz.func32, Tryz.ntmps32
    go_wp2
    go_ret
    exact ⟨by kernel_rfl, rfl⟩
  | 20, _ => by
    show Calls Tryz.prog 32 #[.int .i64 20] w fun e w' => e = .returned (.int .i64 (kix 20 : Nat)) ∧ w' = w
    go_enter Tryz.func32, Tryz.ntmps32
    go_wp2
    go_ret
    exact ⟨by kernel_rfl, rfl⟩
  | 21, _ => by
    show Calls Tryz.prog 32 #[.int .i64 21] w fun e w' => e = .returned (.int .i64 (kix 21 : Nat)) ∧ w' = w
    go_enter Tryz.func32, Tryz.ntmps32
    go_wp2
    go_ret
    exact ⟨by kernel_rfl, rfl⟩
  | 22, _ => by
    show Calls Tryz.prog 32 #[.int .i64 22] w fun e w' => e = .returned (.int .i64 (kix 22 : Nat)) ∧ w' = w
    go_enter Tryz.func32, Tryz.ntmps32
    go_wp2
    go_ret
    exact ⟨by kernel_rfl, rfl⟩
  | 23, _ => by
    show Calls Tryz.prog 32 #[.int .i64 23] w fun e w' => e = .returned (.int .i64 (kix 23 : Nat)) ∧ w' = w
    go_enter Tryz.func32, Tryz.ntmps32
    go_wp2
    go_ret
    exact ⟨by kernel_rfl, rfl⟩
  | 24, _ => by
    show Calls Tryz.prog 32 #[.int .i64 24] w fun e w' => e = .returned (.int .i64 (kix 24 : Nat)) ∧ w' = w
    go_enter Tryz.func32, Tryz.ntmps32
    go_wp2
    go_ret
    exact ⟨by kernel_rfl, rfl⟩
  | 25, _ => by
    show Calls Tryz.prog 32 #[.int .i64 25] w fun e w' => e = .returned (.int .i64 (kix 25 : Nat)) ∧ w' = w
    go_enter Tryz.func32, Tryz.ntmps32
    go_wp2
    go_ret
    exact ⟨by kernel_rfl, rfl⟩
  | 26, _ => by
    show Calls Tryz.prog 32 #[.int .i64 26] w fun e w' => e = .returned (.int .i64 (kix 26 : Nat)) ∧ w' = w
    go_enter Tryz.func32, Tryz.ntmps32
    go_wp2
    go_ret
    exact ⟨by kernel_rfl, rfl⟩
  | 27, _ => by
    show Calls Tryz.prog 32 #[.int .i64 27] w fun e w' => e = .returned (.int .i64 (kix 27 : Nat)) ∧ w' = w
    go_enter Tryz.func32, Tryz.ntmps32
    go_wp2
    go_ret
    exact ⟨by kernel_rfl, rfl⟩
  | 28, _ => by
    show Calls Tryz.prog 32 #[.int .i64 28] w fun e w' => e = .returned (.int .i64 (kix 28 : Nat)) ∧ w' = w
    go_enter Tryz.func32, Tryz.ntmps32
    go_wp2
    go_ret
    exact ⟨by kernel_rfl, rfl⟩
  | 29, _ => by
    show Calls Tryz.prog 32 #[.int .i64 29] w fun e w' => e = .returned (.int .i64 (kix 29 : Nat)) ∧ w' = w
    go_enter Tryz.func32, Tryz.ntmps32
    go_wp2
    go_ret
    exact ⟨by kernel_rfl, rfl⟩
  | 30, _ => by
    show Calls Tryz.prog 32 #[.int .i64 30] w fun e w' => e = .returned (.int .i64 (kix 30 : Nat)) ∧ w' = w
    go_enter Tryz.func32, Tryz.ntmps32
    go_wp2
    go_ret
    exact ⟨by kernel_rfl, rfl⟩
  | 31, _ => by
    show Calls Tryz.prog 32 #[.int .i64 31] w fun e w' => e = .returned (.int .i64 (kix 31 : Nat)) ∧ w' = w
    go_enter Tryz.func32, Tryz.ntmps32
    go_wp2
    go_ret
    exact ⟨by kernel_rfl, rfl⟩
  | 32, _ => by
    show Calls Tryz.prog 32 #[.int .i64 32] w fun e w' => e = .returned (.int .i64 (kix 32 : Nat)) ∧ w' = w
    go_enter Tryz.func32, Tryz.ntmps32
    go_wp2
    go_ret
    exact ⟨by kernel_rfl, rfl⟩
  | 33, _ => by
    show Calls Tryz.prog 32 #[.int .i64 33] w fun e w' => e = .returned (.int .i64 (kix 33 : Nat)) ∧ w' = w
    go_enter Tryz.func32, Tryz.ntmps32
    go_wp2
    go_ret
    exact ⟨by kernel_rfl, rfl⟩
  | 34, _ => by
    show Calls Tryz.prog 32 #[.int .i64 34] w fun e w' => e = .returned (.int .i64 (kix 34 : Nat)) ∧ w' = w
    go_enter Tryz.func32, Tryz.ntmps32
    go_wp2
    go_ret
    exact ⟨by kernel_rfl, rfl⟩
  | 35, _ => by
    show Calls Tryz.prog 32 #[.int .i64 35] w fun e w' => e = .returned (.int .i64 (kix 35 : Nat)) ∧ w' = w
    go_enter Tryz.func32, Tryz.ntmps32
    go_wp2
    go_ret
    exact ⟨by kernel_rfl, rfl⟩
  | 36, _ => by
    show Calls Tryz.prog 32 #[.int .i64 36] w fun e w' => e = .returned (.int .i64 (kix 36 : Nat)) ∧ w' = w
    go_enter Tryz.func32, Tryz.ntmps32
    go_wp2
    go_ret
    exact ⟨by kernel_rfl, rfl⟩
  | 37, _ => by
    show Calls Tryz.prog 32 #[.int .i64 37] w fun e w' => e = .returned (.int .i64 (kix 37 : Nat)) ∧ w' = w
    go_enter Tryz.func32, Tryz.ntmps32
    go_wp2
    go_ret
    exact ⟨by kernel_rfl, rfl⟩
  | 38, _ => by
    show Calls Tryz.prog 32 #[.int .i64 38] w fun e w' => e = .returned (.int .i64 (kix 38 : Nat)) ∧ w' = w
    go_enter Tryz.func32, Tryz.ntmps32
    go_wp2
    go_ret
    exact ⟨by kernel_rfl, rfl⟩
  | 39, _ => by
    show Calls Tryz.prog 32 #[.int .i64 39] w fun e w' => e = .returned (.int .i64 (kix 39 : Nat)) ∧ w' = w
    go_enter Tryz.func32, Tryz.ntmps32
    go_wp2
    go_ret
    exact ⟨by kernel_rfl, rfl⟩
  | 40, _ => by
    show Calls Tryz.prog 32 #[.int .i64 40] w fun e w' => e = .returned (.int .i64 (kix 40 : Nat)) ∧ w' = w
    go_enter Tryz.func32, Tryz.ntmps32
    go_wp2
    go_ret
    exact ⟨by kernel_rfl, rfl⟩
  | 41, _ => by
    show Calls Tryz.prog 32 #[.int .i64 41] w fun e w' => e = .returned (.int .i64 (kix 41 : Nat)) ∧ w' = w
    go_enter Tryz.func32, Tryz.ntmps32
    go_wp2
    go_ret
    exact ⟨by kernel_rfl, rfl⟩
  | 42, _ => by
    show Calls Tryz.prog 32 #[.int .i64 42] w fun e w' => e = .returned (.int .i64 (kix 42 : Nat)) ∧ w' = w
    go_enter Tryz.func32, Tryz.ntmps32
    go_wp2
    go_ret
    exact ⟨by kernel_rfl, rfl⟩
  | 43, _ => by
    show Calls Tryz.prog 32 #[.int .i64 43] w fun e w' => e = .returned (.int .i64 (kix 43 : Nat)) ∧ w' = w
    go_enter Tryz.func32, Tryz.ntmps32
    go_wp2
    go_ret
    exact ⟨by kernel_rfl, rfl⟩
  | 44, _ => by
    show Calls Tryz.prog 32 #[.int .i64 44] w fun e w' => e = .returned (.int .i64 (kix 44 : Nat)) ∧ w' = w
    go_enter Tryz.func32, Tryz.ntmps32
    go_wp2
    go_ret
    exact ⟨by kernel_rfl, rfl⟩
  | 45, _ => by
    show Calls Tryz.prog 32 #[.int .i64 45] w fun e w' => e = .returned (.int .i64 (kix 45 : Nat)) ∧ w' = w
    go_enter Tryz.func32, Tryz.ntmps32
    go_wp2
    go_ret
    exact ⟨by kernel_rfl, rfl⟩
  | k + 46, h => absurd h (by omega)

theorem may_ref0 (a : Int) (w : World) : Calls Tryz.prog 67 #[.int .i64 0, .int .i64 a] w fun e w' => e = .returned (.bool (mayP 0 a)) ∧ w' = w := by
  go_enter Tryz.func67, Tryz.ntmps67
  go_wp2
  go_ret
  exact ⟨rfl, rfl⟩
theorem may_ref1 (a : Int) (w : World) : Calls Tryz.prog 67 #[.int .i64 1, .int .i64 a] w fun e w' => e = .returned (.bool (mayP 1 a)) ∧ w' = w := by
  go_enter Tryz.func67, Tryz.ntmps67
  go_wp2
  go_ret
  exact ⟨rfl, rfl⟩
theorem may_ref2 (a : Int) (w : World) : Calls Tryz.prog 67 #[.int .i64 2, .int .i64 a] w fun e w' => e = .returned (.bool (mayP 2 a)) ∧ w' = w := by
  have HM : Hid (mayP 2 a = (decide (0 ≤ a) && decide (a < endOf 2))) := rfl
  by_cases h : 0 ≤ a
  · have HV : Hid (mayP 2 a = decide (a < endOf 2)) := by unfold Hid; rw [HM.out]; simp [h]
    go_enter Tryz.func67, Tryz.ntmps67
    go_wp2
    go_ret
    exact ⟨by rw [HV.out]; rfl, rfl⟩
  · have HV : Hid (mayP 2 a = false) := by unfold Hid; rw [HM.out]; simp [h]
    go_enter Tryz.func67, Tryz.ntmps67
    go_wp2
    go_ret
    exact ⟨by rw [HV.out]; rfl, rfl⟩
theorem may_ref3 (a : Int) (w : World) : Calls Tryz.prog 67 #[.int .i64 3, .int .i64 a] w fun e w' => e = .returned (.bool (mayP 3 a)) ∧ w' = w := by
  have HM : Hid (mayP 3 a = (decide (0 ≤ a) && decide (a < endOf 3))) := rfl
  by_cases h : 0 ≤ a
  · have HV : Hid (mayP 3 a = decide (a < endOf 3)) := by unfold Hid; rw [HM.out]; simp [h]
    go_enter Tryz.func67, Tryz.ntmps67
    go_wp2
    go_ret
    exact ⟨by rw [HV.out]; rfl, rfl⟩
  · have HV : Hid (mayP 3 a = false) := by unfold Hid; rw [HM.out]; simp [h]
    go_enter Tryz.func67, Tryz.ntmps67
    go_wp2
    go_ret
    exact ⟨by rw [HV.out]; rfl, rfl⟩
theorem may_ref4 (a : Int) (w : World) : Calls Tryz.prog 67 #[.int .i64 4, .int .i64 a] w fun e w' => e = .returned (.bool (mayP 4 a)) ∧ w' = w := by
  have HM : Hid (mayP 4 a = (decide (0 ≤ a) && decide (a < endOf 4))) := rfl
  by_cases h : 0 ≤ a
  · have HV : Hid (mayP 4 a = decide (a < endOf 4)) := by unfold Hid; rw [HM.out]; simp [h]
    go_enter Tryz.func67, Tryz.ntmps67
    go_wp2
    go_ret
    exact ⟨by rw [HV.out]; rfl, rfl⟩
  · have HV : Hid (mayP 4 a = false) := by unfold Hid; rw [HM.out]; simp [h]
    go_enter Tryz.func67, Tryz.ntmps67
    go_wp2
    go_ret
    exact ⟨by rw [HV.out]; rfl, rfl⟩
theorem may_ref5 (a : Int) (w : World) : Calls Tryz.prog 67 #[.int .i64 5, .int .i64 a] w fun e w' => e = .returned (.bool (mayP 5 a)) ∧ w' = w := by
  have HM : Hid (mayP 5 a = (decide (0 ≤ a) && decide (a < endOf 5))) := rfl
  by_cases h : 0 ≤ a
  · have HV : Hid (mayP 5 a = decide (a < endOf 5)) := by unfold Hid; rw [HM.out]; simp [h]
    go_enter Tryz.func67, Tryz.ntmps67
    go_wp2
    go_ret
    exact ⟨by rw [HV.out]; rfl, rfl⟩
  · have HV : Hid (mayP 5 a = false) := by unfold Hid; rw [HM.out]; simp [h]
    go_enter Tryz.func67, Tryz.ntmps67
    go_wp2
    go_ret
    exact ⟨by rw [HV.out]; rfl, rfl⟩
theorem may_ref6 (a : Int) (w : World) : Calls Tryz.prog 67 #[.int .i64 6, .int .i64 a] w fun e w' => e = .returned (.bool (mayP 6 a)) ∧ w' = w := by
  have HM : Hid (mayP 6 a = (decide (0 ≤ a) && decide (a < endOf 6))) := rfl
  by_cases h : 0 ≤ a
  · have HV : Hid (mayP 6 a = decide (a < endOf 6)) := by unfold Hid; rw [HM.out]; simp [h]
    go_enter Tryz.func67, Tryz.ntmps67
    go_wp2
    go_ret
    exact ⟨by rw [HV.out]; rfl, rfl⟩
  · have HV : Hid (mayP 6 a = false) := by unfold Hid; rw [HM.out]; simp [h]
    go_enter Tryz.func67, Tryz.ntmps67
    go_wp2
    go_ret
    exact ⟨by rw [HV.out]; rfl, rfl⟩
theorem may_ref (a : Int) (w : World) : ∀ k : Nat, k ≤ 6 → Calls Tryz.prog 67 #[.int .i64 (k : Int), .int .i64 a] w fun e w' => e = .returned (.bool (mayP k a)) ∧ w' = w
  | 0, _ => may_ref0 a w
  | 1, _ => may_ref1 a w
  | 2, _ => may_ref2 a w
  | 3, _ => may_ref3 a w
  | 4, _ => may_ref4 a w
  | 5, _ => may_ref5 a w
  | 6, _ => may_ref6 a w
  | k + 7, h => absurd h (by omega)
end Go.Proofs.YtgoabnehdmdikaaGreatDoor

namespace Go.Proofs.YtgoabnehdmdikaaGreatDoor
open Go.RowKit
set_option linter.unusedVariables false
set_option linter.unusedSimpArgs false
set_option maxRecDepth 100000
theorem size27 : (Tryz.prog.info? 89).map (·.size) = some 4 := by kernel_rfl

set_option maxHeartbeats 4000000 in
theorem rof_0 (w : World) : Calls Tryz.prog 33 #[.int .i64 0] w fun e w' => e = .returned (.tuple #[.agg (insL.getD 0 Sh.none).cells.toArray, .bool true]) ∧ Kept (fun _ => False) w w' := by
  have hX := heap_alloc2_old w (.cells (insL.getD 0 Sh.none).cells.toArray 89) (.cells (insL.getD 0 Sh.none).cells.toArray 89)
  have hK := ((Kept.refl (fun _ => False) w).alloc (.cells (insL.getD 0 Sh.none).cells.toArray 89)).alloc (.cells (insL.getD 0 Sh.none).cells.toArray 89)
  have HX := hid_of hX
  have HK := hid_of hK
  clear hX hK
  go_enter Tryz.func33, Tryz.ntmps33
  go_wp2_with fail
  refine (word_is _ 0 (insL.getD 0 Sh.none).nm _ (by decide +kernel) (by decide) (by kernel_rfl)).mono ?_
  rintro e w1 ⟨rfl, rfl⟩
  rw [show (insL.getD 0 Sh.none).nm = _ from rfl]
  go_wp2_with fail
  refine (operand_ref _ 0 (by decide)).mono ?_
  rintro e w2 ⟨rfl, rfl⟩
  rw [show ((kix 0 : Nat) : Int) = 0 from by kernel_rfl]
  go_wp2
  refine bodyPost_ret (v := .tuple #[.agg (insL.getD 0 Sh.none).cells.toArray, .bool true]) ?_ rfl ⟨rfl, HK.out⟩
  exact results_row_tmp (by rfl) _ _ ⟨w.heap.size, 0, none⟩ _ _ (by rfl) (by rfl) (run_loadVar_row _ w.heap.size 89 89 _ (0, 0) _ HX.out Tryz.underlying89 rfl size27)
set_option maxHeartbeats 4000000 in
theorem rof_1 (w : World) : Calls Tryz.prog 33 #[.int .i64 1] w fun e w' => e = .returned (.tuple #[.agg (insL.getD 1 Sh.none).cells.toArray, .bool true]) ∧ Kept (fun _ => False) w w' := by
  have hX := heap_alloc2_old w (.cells (insL.getD 1 Sh.none).cells.toArray 89) (.cells (insL.getD 1 Sh.none).cells.toArray 89)
  have hK := ((Kept.refl (fun _ => False) w).alloc (.cells (insL.getD 1 Sh.none).cells.toArray 89)).alloc (.cells (insL.getD 1 Sh.none).cells.toArray 89)
  have HX := hid_of hX
  have HK := hid_of hK
  clear hX hK
  go_enter Tryz.func33, Tryz.ntmps33
  go_wp2_with fail
  refine (word_is _ 1 (insL.getD 1 Sh.none).nm _ (by decide +kernel) (by decide) (by kernel_rfl)).mono ?_
  rintro e w1 ⟨rfl, rfl⟩
  rw [show (insL.getD 1 Sh.none).nm = _ from rfl]
  go_wp2_with fail
  refine (operand_ref _ 1 (by decide)).mono ?_
  rintro e w2 ⟨rfl, rfl⟩
  rw [show ((kix 1 : Nat) : Int) = 0 from by kernel_rfl]
  go_wp2
  refine bodyPost_ret (v := .tuple #[.agg (insL.getD 1 Sh.none).cells.toArray, .bool true]) ?_ rfl ⟨rfl, HK.out⟩
  exact results_row_tmp (by rfl) _ _ ⟨w.heap.size, 0, none⟩ _ _ (by rfl) (by rfl) (run_loadVar_row _ w.heap.size 89 89 _ (0, 0) _ HX.out Tryz.underlying89 rfl size27)
set_option maxHeartbeats 4000000 in
theorem rof_2 (w : World) : Calls Tryz.prog 33 #[.int .i64 2] w fun e w' => e = .returned (.tuple #[.agg (insL.getD 2 Sh.none).cells.toArray, .bool true]) ∧ Kept (fun _ => False) w w' := by
  have hX := heap_alloc2_old w (.cells (insL.getD 2 Sh.none).cells.toArray 89) (.cells (insL.getD 2 Sh.none).cells.toArray 89)
  have hK := ((Kept.refl (fun _ => False) w).alloc (.cells (insL.getD 2 Sh.none).cells.toArray 89)).alloc (.cells (insL.getD 2 Sh.none).cells.toArray 89)
  have HX := hid_of hX
  have HK := hid_of hK
  clear hX hK
  go_enter Tryz.func33, Tryz.ntmps33
  go_wp2_with fail
  refine (word_is _ 2 (insL.getD 2 Sh.none).nm _ (by decide +kernel) (by decide) (by kernel_rfl)).mono ?_
  rintro e w1 ⟨rfl, rfl⟩
  rw [show (insL.getD 2 Sh.none).nm = _ from rfl]
  go_wp2_with fail
  refine (operand_ref _ 2 (by decide)).mono ?_
  rintro e w2 ⟨rfl, rfl⟩
  rw [show ((kix 2 : Nat) : Int) = 0 from by kernel_rfl]
  go_wp2
  refine bodyPost_ret (v := .tuple #[.agg (insL.getD 2 Sh.none).cells.toArray, .bool true]) ?_ rfl ⟨rfl, HK.out⟩
  exact results_row_tmp (by rfl) _ _ ⟨w.heap.size, 0, none⟩ _ _ (by rfl) (by rfl) (run_loadVar_row _ w.heap.size 89 89 _ (0, 0) _ HX.out Tryz.underlying89 rfl size27)
set_option maxHeartbeats 4000000 in
theorem rof_3 (w : World) : Calls Tryz.prog 33 #[.int .i64 3] w fun e w' => e = .returned (.tuple #[.agg (insL.getD 3 Sh.none).cells.toArray, .bool true]) ∧ Kept (fun _ => False) w w' := by
  have hX := heap_alloc2_old w (.cells (insL.getD 3 Sh.none).cells.toArray 89) (.cells (insL.getD 3 Sh.none).cells.toArray 89)
  have hK := ((Kept.refl (fun _ => False) w).alloc (.cells (insL.getD 3 Sh.none).cells.toArray 89)).alloc (.cells (insL.getD 3 Sh.none).cells.toArray 89)
  have HX := hid_of hX
  have HK := hid_of hK
  clear hX hK
  go_enter Tryz.func33, Tryz.ntmps33
  go_wp2_with fail
  refine (word_is _ 3 (insL.getD 3 Sh.none).nm _ (by decide +kernel) (by decide) (by kernel_rfl)).mono ?_
  rintro e w1 ⟨rfl, rfl⟩
  rw [show (insL.getD 3 Sh.none).nm = _ from rfl]
  go_wp2_with fail
  refine (operand_ref _ 3 (by decide)).mono ?_
  rintro e w2 ⟨rfl, rfl⟩
  rw [show ((kix 3 : Nat) : Int) = 1 from by kernel_rfl]
  go_wp2
  refine bodyPost_ret (v := .tuple #[.agg (insL.getD 3 Sh.none).cells.toArray, .bool true]) ?_ rfl ⟨rfl, HK.out⟩
  exact results_row_tmp (by rfl) _ _ ⟨w.heap.size, 0, none⟩ _ _ (by rfl) (by rfl) (run_loadVar_row _ w.heap.size 89 89 _ (0, 0) _ HX.out Tryz.underlying89 rfl size27)
set_option maxHeartbeats 4000000 in
theorem rof_4 (w : World) : Calls Tryz.prog 33 #[.int .i64 4] w fun e w' => e = .returned (.tuple #[.agg (insL.getD 4 Sh.none).cells.toArray, .bool true]) ∧ Kept (fun _ => False) w w' := by
  have hX := heap_alloc2_old w (.cells (insL.getD 4 Sh.none).cells.toArray 89) (.cells (insL.getD 4 Sh.none).cells.toArray 89)
  have hK := ((Kept.refl (fun _ => False) w).alloc (.cells (insL.getD 4 Sh.none).cells.toArray 89)).alloc (.cells (insL.getD 4 Sh.none).cells.toArray 89)
  have HX := hid_of hX
  have HK := hid_of hK
  clear hX hK
  go_enter Tryz.func33, Tryz.ntmps33
  go_wp2_with fail
  refine (word_is _ 4 (insL.getD 4 Sh.none).nm _ (by decide +kernel) (by decide) (by kernel_rfl)).mono ?_
  rintro e w1 ⟨rfl, rfl⟩
  rw [show (insL.getD 4 Sh.none).nm = _ from rfl]
  go_wp2_with fail
  refine (operand_ref _ 4 (by decide)).mono ?_
  rintro e w2 ⟨rfl, rfl⟩
  rw [show ((kix 4 : Nat) : Int) = 0 from by kernel_rfl]
  go_wp2
  refine bodyPost_ret (v := .tuple #[.agg (insL.getD 4 Sh.none).cells.toArray, .bool true]) ?_ rfl ⟨rfl, HK.out⟩
  exact results_row_tmp (by rfl) _ _ ⟨w.heap.size, 0, none⟩ _ _ (by rfl) (by rfl) (run_loadVar_row _ w.heap.size 89 89 _ (0, 0) _ HX.out Tryz.underlying89 rfl size27)
set_option maxHeartbeats 4000000 in
theorem rof_5 (w : World) : Calls Tryz.prog 33 #[.int .i64 5] w fun e w' => e = .returned (.tuple #[.agg (insL.getD 5 Sh.none).cells.toArray, .bool true]) ∧ Kept (fun _ => False) w w' := by
  have hX := heap_alloc2_old w (.cells (insL.getD 5 Sh.none).cells.toArray 89) (.cells (insL.getD 5 Sh.none).cells.toArray 89)
  have hK := ((Kept.refl (fun _ => False) w).alloc (.cells (insL.getD 5 Sh.none).cells.toArray 89)).alloc (.cells (insL.getD 5 Sh.none).cells.toArray 89)
  have HX := hid_of hX
  have HK := hid_of hK
  clear hX hK
  go_enter Tryz.func33, Tryz.ntmps33
  go_wp2_with fail
  refine (word_is _ 5 (insL.getD 5 Sh.none).nm _ (by decide +kernel) (by decide) (by kernel_rfl)).mono ?_
  rintro e w1 ⟨rfl, rfl⟩
  rw [show (insL.getD 5 Sh.none).nm = _ from rfl]
  go_wp2_with fail
  refine (operand_ref _ 5 (by decide)).mono ?_
  rintro e w2 ⟨rfl, rfl⟩
  rw [show ((kix 5 : Nat) : Int) = 6 from by kernel_rfl]
  go_wp2
  refine bodyPost_ret (v := .tuple #[.agg (insL.getD 5 Sh.none).cells.toArray, .bool true]) ?_ rfl ⟨rfl, HK.out⟩
  exact results_row_tmp (by rfl) _ _ ⟨w.heap.size, 0, none⟩ _ _ (by rfl) (by rfl) (run_loadVar_row _ w.heap.size 89 89 _ (0, 0) _ HX.out Tryz.underlying89 rfl size27)
set_option maxHeartbeats 4000000 in
theorem rof_6 (w : World) : Calls Tryz.prog 33 #[.int .i64 6] w fun e w' => e = .returned (.tuple #[.agg (insL.getD 6 Sh.none).cells.toArray, .bool true]) ∧ Kept (fun _ => False) w w' := by
  have hX := heap_alloc2_old w (.cells (insL.getD 6 Sh.none).cells.toArray 89) (.cells (insL.getD 6 Sh.none).cells.toArray 89)
  have hK := ((Kept.refl (fun _ => False) w).alloc (.cells (insL.getD 6 Sh.none).cells.toArray 89)).alloc (.cells (insL.getD 6 Sh.none).cells.toArray 89)
  have HX := hid_of hX
  have HK := hid_of hK
  clear hX hK
  go_enter Tryz.func33, Tryz.ntmps33
  go_wp2_with fail
  refine (word_is _ 6 (insL.getD 6 Sh.none).nm _ (by decide +kernel) (by decide) (by kernel_rfl)).mono ?_
  rintro e w1 ⟨rfl, rfl⟩
  rw [show (insL.getD 6 Sh.none).nm = _ from rfl]
  go_wp2_with fail
  refine (operand_ref _ 6 (by decide)).mono ?_
  rintro e w2 ⟨rfl, rfl⟩
  rw [show ((kix 6 : Nat) : Int) = 0 from by kernel_rfl]
  go_wp2
  refine bodyPost_ret (v := .tuple #[.agg (insL.getD 6 Sh.none).cells.toArray, .bool true]) ?_ rfl ⟨rfl, HK.out⟩
  exact results_row_tmp (by rfl) _ _ ⟨w.heap.size, 0, none⟩ _ _ (by rfl) (by rfl) (run_loadVar_row _ w.heap.size 89 89 _ (0, 0) _ HX.out Tryz.underlying89 rfl size27)
set_option maxHeartbeats 4000000 in
theorem rof_7 (w : World) : Calls Tryz.prog 33 #[.int .i64 7] w fun e w' => e = .returned (.tuple #[.agg (insL.getD 7 Sh.none).cells.toArray, .bool true]) ∧ Kept (fun _ => False) w w' := by
  have hX := heap_alloc2_old w (.cells (insL.getD 7 Sh.none).cells.toArray 89) (.cells (insL.getD 7 Sh.none).cells.toArray 89)
  have hK := ((Kept.refl (fun _ => False) w).alloc (.cells (insL.getD 7 Sh.none).cells.toArray 89)).alloc (.cells (insL.getD 7 Sh.none).cells.toArray 89)
  have HX := hid_of hX
  have HK := hid_of hK
  clear hX hK
  go_enter Tryz.func33, Tryz.ntmps33
  go_wp2_with fail
  refine (word_is _ 7 (insL.getD 7 Sh.none).nm _ (by decide +kernel) (by decide) (by kernel_rfl)).mono ?_
  rintro e w1 ⟨rfl, rfl⟩
  rw [show (insL.getD 7 Sh.none).nm = _ from rfl]
  go_wp2_with fail
  refine (operand_ref _ 7 (by decide)).mono ?_
  rintro e w2 ⟨rfl, rfl⟩
  rw [show ((kix 7 : Nat) : Int) = 2 from by kernel_rfl]
  go_wp2
  refine bodyPost_ret (v := .tuple #[.agg (insL.getD 7 Sh.none).cells.toArray, .bool true]) ?_ rfl ⟨rfl, HK.out⟩
  exact results_row_tmp (by rfl) _ _ ⟨w.heap.size, 0, none⟩ _ _ (by rfl) (by rfl) (run_loadVar_row _ w.heap.size 89 89 _ (0, 0) _ HX.out Tryz.underlying89 rfl size27)
set_option maxHeartbeats 4000000 in
theorem rof_8 (w : World) : Calls Tryz.prog 33 #[.int .i64 8] w fun e w' => e = .returned (.tuple #[.agg (insL.getD 8 Sh.none).cells.toArray, .bool true]) ∧ Kept (fun _ => False) w w' := by
  have hX := heap_alloc2_old w (.cells (insL.getD 8 Sh.none).cells.toArray 89) (.cells (insL.getD 8 Sh.none).cells.toArray 89)
  have hK := ((Kept.refl (fun _ => False) w).alloc (.cells (insL.getD 8 Sh.none).cells.toArray 89)).alloc (.cells (insL.getD 8 Sh.none).cells.toArray 89)
  have HX := hid_of hX
  have HK := hid_of hK
  clear hX hK
  go_enter Tryz.func33, Tryz.ntmps33
  go_wp2_with fail
  refine (word_is _ 8 (insL.getD 8 Sh.none).nm _ (by decide +kernel) (by decide) (by kernel_rfl)).mono ?_
  rintro e w1 ⟨rfl, rfl⟩
  rw [show (insL.getD 8 Sh.none).nm = _ from rfl]
  go_wp2_with fail
  refine (operand_ref _ 8 (by decide)).mono ?_
  rintro e w2 ⟨rfl, rfl⟩
  rw [show ((kix 8 : Nat) : Int) = 2 from by kernel_rfl]
  go_wp2
  refine bodyPost_ret (v := .tuple #[.agg (insL.getD 8 Sh.none).cells.toArray, .bool true]) ?_ rfl ⟨rfl, HK.out⟩
  exact results_row_tmp (by rfl) _ _ ⟨w.heap.size, 0, none⟩ _ _ (by rfl) (by rfl) (run_loadVar_row _ w.heap.size 89 89 _ (0, 0) _ HX.out Tryz.underlying89 rfl size27)
set_option maxHeartbeats 4000000 in
theorem rof_9 (w : World) : Calls Tryz.prog 33 #[.int .i64 9] w fun e w' => e = .returned (.tuple #[.agg (insL.getD 9 Sh.none).cells.toArray, .bool true]) ∧ Kept (fun _ => False) w w' := by
  have hX := heap_alloc2_old w (.cells (insL.getD 9 Sh.none).cells.toArray 89) (.cells (insL.getD 9 Sh.none).cells.toArray 89)
  have hK := ((Kept.refl (fun _ => False) w).alloc (.cells (insL.getD 9 Sh.none).cells.toArray 89)).alloc (.cells (insL.getD 9 Sh.none).cells.toArray 89)
  have HX := hid_of hX
  have HK := hid_of hK
  clear hX hK
  go_enter Tryz.func33, Tryz.ntmps33
  go_wp2_with fail
  refine (word_is _ 9 (insL.getD 9 Sh.none).nm _ (by decide +kernel) (by decide) (by kernel_rfl)).mono ?_
  rintro e w1 ⟨rfl, rfl⟩
  rw [show (insL.getD 9 Sh.none).nm = _ from rfl]
  go_wp2_with fail
  refine (operand_ref _ 9 (by decide)).mono ?_
  rintro e w2 ⟨rfl, rfl⟩
  rw [show ((kix 9 : Nat) : Int) = 0 from by kernel_rfl]
  go_wp2
  refine bodyPost_ret (v := .tuple #[.agg (insL.getD 9 Sh.none).cells.toArray, .bool true]) ?_ rfl ⟨rfl, HK.out⟩
  exact results_row_tmp (by rfl) _ _ ⟨w.heap.size, 0, none⟩ _ _ (by rfl) (by rfl) (run_loadVar_row _ w.heap.size 89 89 _ (0, 0) _ HX.out Tryz.underlying89 rfl size27)
set_option maxHeartbeats 4000000 in
theorem rof_10 (w : World) : Calls Tryz.prog 33 #[.int .i64 10] w fun e w' => e = .returned (.tuple #[.agg (insL.getD 10 Sh.none).cells.toArray, .bool true]) ∧ Kept (fun _ => False) w w' := by
  have hX := heap_alloc2_old w (.cells (insL.getD 10 Sh.none).cells.toArray 89) (.cells (insL.getD 10 Sh.none).cells.toArray 89)
  have hK := ((Kept.refl (fun _ => False) w).alloc (.cells (insL.getD 10 Sh.none).cells.toArray 89)).alloc (.cells (insL.getD 10 Sh.none).cells.toArray 89)
  have HX := hid_of hX
  have HK := hid_of hK
  clear hX hK
  go_enter Tryz.func33, Tryz.ntmps33
  go_wp2_with fail
  refine (word_is _ 10 (insL.getD 10 Sh.none).nm _ (by decide +kernel) (by decide) (by kernel_rfl)).mono ?_
  rintro e w1 ⟨rfl, rfl⟩
  rw [show (insL.getD 10 Sh.none).nm = _ from rfl]
  go_wp2_with fail
  refine (operand_ref _ 10 (by decide)).mono ?_
  rintro e w2 ⟨rfl, rfl⟩
  rw [show ((kix 10 : Nat) : Int) = 0 from by kernel_rfl]
  go_wp2
  refine bodyPost_ret (v := .tuple #[.agg (insL.getD 10 Sh.none).cells.toArray, .bool true]) ?_ rfl ⟨rfl, HK.out⟩
  exact results_row_tmp (by rfl) _ _ ⟨w.heap.size, 0, none⟩ _ _ (by rfl) (by rfl) (run_loadVar_row _ w.heap.size 89 89 _ (0, 0) _ HX.out Tryz.underlying89 rfl size27)
set_option maxHeartbeats 4000000 in
theorem rof_11 (w : World) : Calls Tryz.prog 33 #[.int .i64 11] w fun e w' => e = .returned (.tuple #[.agg (insL.getD 11 Sh.none).cells.toArray, .bool true]) ∧ Kept (fun _ => False) w w' := by
  have hX := heap_alloc2_old w (.cells (insL.getD 11 Sh.none).cells.toArray 89) (.cells (insL.getD 11 Sh.none).cells.toArray 89)
  have hK := ((Kept.refl (fun _ => False) w).alloc (.cells (insL.getD 11 Sh.none).cells.toArray 89)).alloc (.cells (insL.getD 11 Sh.none).cells.toArray 89)
  have HX := hid_of hX
  have HK := hid_of hK
  clear hX hK
  go_enter Tryz.func33, Tryz.ntmps33
  go_wp2_with fail
  refine (word_is _ 11 (insL.getD 11 Sh.none).nm _ (by decide +kernel) (by decide) (by kernel_rfl)).mono ?_
  rintro e w1 ⟨rfl, rfl⟩
  rw [show (insL.getD 11 Sh.none).nm = _ from rfl]
  go_wp2_with fail
  refine (operand_ref _ 11 (by decide)).mono ?_
  rintro e w2 ⟨rfl, rfl⟩
  rw [show ((kix 11 : Nat) : Int) = 0 from by kernel_rfl]
  go_wp2
  refine bodyPost_ret (v := .tuple #[.agg (insL.getD 11 Sh.none).cells.toArray, .bool true]) ?_ rfl ⟨rfl, HK.out⟩
  exact results_row_tmp (by rfl) _ _ ⟨w.heap.size, 0, none⟩ _ _ (by rfl) (by rfl) (run_loadVar_row _ w.heap.size 89 89 _ (0, 0) _ HX.out Tryz.underlying89 rfl size27)
set_option maxHeartbeats 4000000 in
theorem rof_12 (w : World) : Calls Tryz.prog 33 #[.int .i64 12] w fun e w' => e = .returned (.tuple #[.agg (insL.getD 12 Sh.none).cells.toArray, .bool true]) ∧ Kept (fun _ => False) w w' := by
  have hX := heap_alloc2_old w (.cells (insL.getD 12 Sh.none).cells.toArray 89) (.cells (insL.getD 12 Sh.none).cells.toArray 89)
  have hK := ((Kept.refl (fun _ => False) w).alloc (.cells (insL.getD 12 Sh.none).cells.toArray 89)).alloc (.cells (insL.getD 12 Sh.none).cells.toArray 89)
  have HX := hid_of hX
  have HK := hid_of hK
  clear hX hK
  go_enter Tryz.func33, Tryz.ntmps33
  go_wp2_with fail
  refine (word_is _ 12 (insL.getD 12 Sh.none).nm _ (by decide +kernel) (by decide) (by kernel_rfl)).mono ?_
  rintro e w1 ⟨rfl, rfl⟩
  rw [show (insL.getD 12 Sh.none).nm = _ from rfl]
  go_wp2_with fail
  refine (operand_ref _ 12 (by decide)).mono ?_
  rintro e w2 ⟨rfl, rfl⟩
  rw [show ((kix 12 : Nat) : Int) = 0 from by kernel_rfl]
  go_wp2
  refine bodyPost_ret (v := .tuple #[.agg (insL.getD 12 Sh.none).cells.toArray, .bool true]) ?_ rfl ⟨rfl, HK.out⟩
  exact results_row_tmp (by rfl) _ _ ⟨w.heap.size, 0, none⟩ _ _ (by rfl) (by rfl) (run_loadVar_row _ w.heap.size 89 89 _ (0, 0) _ HX.out Tryz.underlying89 rfl size27)
set_option maxHeartbeats 4000000 in
theorem rof_13 (w : World) : Calls Tryz.prog 33 #[.int .i64 13] w fun e w' => e = .returned (.tuple #[.agg (insL.getD 13 Sh.none).cells.toArray, .bool true]) ∧ Kept (fun _ => False) w w' := by
  have hX := heap_alloc2_old w (.cells (insL.getD 13 Sh.none).cells.toArray 89) (.cells (insL.getD 13 Sh.none).cells.toArray 89)
  have hK := ((Kept.refl (fun _ => False) w).alloc (.cells (insL.getD 13 Sh.none).cells.toArray 89)).alloc (.cells (insL.getD 13 Sh.none).cells.toArray 89)
  have HX := hid_of hX
  have HK := hid_of hK
  clear hX hK
  go_enter Tryz.func33, Tryz.ntmps33
  go_wp2_with fail
  refine (word_is _ 13 (insL.getD 13 Sh.none).nm _ (by decide +kernel) (by decide) (by kernel_rfl)).mono ?_
  rintro e w1 ⟨rfl, rfl⟩
  rw [show (insL.getD 13 Sh.none).nm = _ from rfl]
  go_wp2_with fail
  refine (operand_ref _ 13 (by decide)).mono ?_
  rintro e w2 ⟨rfl, rfl⟩
  rw [show ((kix 13 : Nat) : Int) = 0 from by kernel_rfl]
  go_wp2
  refine bodyPost_ret (v := .tuple #[.agg (insL.getD 13 Sh.none).cells.toArray, .bool true]) ?_ rfl ⟨rfl, HK.out⟩
  exact results_row_tmp (by rfl) _ _ ⟨w.heap.size, 0, none⟩ _ _ (by rfl) (by rfl) (run_loadVar_row _ w.heap.size 89 89 _ (0, 0) _ HX.out Tryz.underlying89 rfl size27)
set_option maxHeartbeats 4000000 in
theorem rof_14 (w : World) : Calls Tryz.prog 33 #[.int .i64 14] w fun e w' => e = .returned (.tuple #[.agg (insL.getD 14 Sh.none).cells.toArray, .bool true]) ∧ Kept (fun _ => False) w w' := by
  have hX := heap_alloc2_old w (.cells (insL.getD 14 Sh.none).cells.toArray 89) (.cells (insL.getD 14 Sh.none).cells.toArray 89)
  have hK := ((Kept.refl (fun _ => False) w).alloc (.cells (insL.getD 14 Sh.none).cells.toArray 89)).alloc (.cells (insL.getD 14 Sh.none).cells.toArray 89)
  have HX := hid_of hX
  have HK := hid_of hK
  clear hX hK
  go_enter Tryz.func33, Tryz.ntmps33
  go_wp2_with fail
  refine (word_is _ 14 (insL.getD 14 Sh.none).nm _ (by decide +kernel) (by decide) (by kernel_rfl)).mono ?_
  rintro e w1 ⟨rfl, rfl⟩
  rw [show (insL.getD 14 Sh.none).nm = _ from rfl]
  go_wp2_with fail
  refine (operand_ref _ 14 (by decide)).mono ?_
  rintro e w2 ⟨rfl, rfl⟩
  rw [show ((kix 14 : Nat) : Int) = 3 from by kernel_rfl]
  go_wp2
  refine bodyPost_ret (v := .tuple #[.agg (insL.getD 14 Sh.none).cells.toArray, .bool true]) ?_ rfl ⟨rfl, HK.out⟩
  exact results_row_tmp (by rfl) _ _ ⟨w.heap.size, 0, none⟩ _ _ (by rfl) (by rfl) (run_loadVar_row _ w.heap.size 89 89 _ (0, 0) _ HX.out Tryz.underlying89 rfl size27)
set_option maxHeartbeats 4000000 in
theorem rof_15 (w : World) : Calls Tryz.prog 33 #[.int .i64 15] w fun e w' => e = .returned (.tuple #[.agg (insL.getD 15 Sh.none).cells.toArray, .bool true]) ∧ Kept (fun _ => False) w w' := by
  have hX := heap_alloc2_old w (.cells (insL.getD 15 Sh.none).cells.toArray 89) (.cells (insL.getD 15 Sh.none).cells.toArray 89)
  have hK := ((Kept.refl (fun _ => False) w).alloc (.cells (insL.getD 15 Sh.none).cells.toArray 89)).alloc (.cells (insL.getD 15 Sh.none).cells.toArray 89)
  have HX := hid_of hX
  have HK := hid_of hK
  clear hX hK
  go_enter Tryz.func33, Tryz.ntmps33
  go_wp2_with fail
  refine (word_is _ 15 (insL.getD 15 Sh.none).nm _ (by decide +kernel) (by decide) (by kernel_rfl)).mono ?_
  rintro e w1 ⟨rfl, rfl⟩
  rw [show (insL.getD 15 Sh.none).nm = _ from rfl]
  go_wp2_with fail
  refine (operand_ref _ 15 (by decide)).mono ?_
  rintro e w2 ⟨rfl, rfl⟩
  rw [show ((kix 15 : Nat) : Int) = 3 from by kernel_rfl]
  go_wp2
  refine bodyPost_ret (v := .tuple #[.agg (insL.getD 15 Sh.none).cells.toArray, .bool true]) ?_ rfl ⟨rfl, HK.out⟩
  exact results_row_tmp (by rfl) _ _ ⟨w.heap.size, 0, none⟩ _ _ (by rfl) (by rfl) (run_loadVar_row _ w.heap.size 89 89 _ (0, 0) _ HX.out Tryz.underlying89 rfl size27)
set_option maxHeartbeats 4000000 in
theorem rof_16 (w : World) : Calls Tryz.prog 33 #[.int .i64 16] w fun e w' => e = .returned (.tuple #[.agg (insL.getD 16 Sh.none).cells.toArray, .bool true]) ∧ Kept (fun _ => False) w w' := by
  have hX := heap_alloc2_old w (.cells (insL.getD 16 Sh.none).cells.toArray 89) (.cells (insL.getD 16 Sh.none).cells.toArray 89)
  have hK := ((Kept.refl (fun _ => False) w).alloc (.cells (insL.getD 16 Sh.none).cells.toArray 89)).alloc (.cells (insL.getD 16 Sh.none).cells.toArray 89)
  have HX := hid_of hX
  have HK := hid_of hK
  clear hX hK
  go_enter Tryz.func33, Tryz.ntmps33
  go_wp2_with fail
  refine (word_is _ 16 (insL.getD 16 Sh.none).nm _ (by decide +kernel) (by decide) (by kernel_rfl)).mono ?_
  rintro e w1 ⟨rfl, rfl⟩
  rw [show (insL.getD 16 Sh.none).nm = _ from rfl]
  go_wp2_with fail
  refine (operand_ref _ 16 (by decide)).mono ?_
  rintro e w2 ⟨rfl, rfl⟩
  rw [show ((kix 16 : Nat) : Int) = 3 from by kernel_rfl]
  go_wp2
  refine bodyPost_ret (v := .tuple #[.agg (insL.getD 16 Sh.none).cells.toArray, .bool true]) ?_ rfl ⟨rfl, HK.out⟩
  exact results_row_tmp (by rfl) _ _ ⟨w.heap.size, 0, none⟩ _ _ (by rfl) (by rfl) (run_loadVar_row _ w.heap.size 89 89 _ (0, 0) _ HX.out Tryz.underlying89 rfl size27)
set_option maxHeartbeats 4000000 in
theorem rof_17 (w : World) : Calls Tryz.prog 33 #[.int .i64 17] w fun e w' => e = .returned (.tuple #[.agg (insL.getD 17 Sh.none).cells.toArray, .bool true]) ∧ Kept (fun _ => False) w w' := by
  have hX := heap_alloc2_old w (.cells (insL.getD 17 Sh.none).cells.toArray 89) (.cells (insL.getD 17 Sh.none).cells.toArray 89)
  have hK := ((Kept.refl (fun _ => False) w).alloc (.cells (insL.getD 17 Sh.none).cells.toArray 89)).alloc (.cells (insL.getD 17 Sh.none).cells.toArray 89)
  have HX := hid_of hX
  have HK := hid_of hK
  clear hX hK
  go_enter Tryz.func33, Tryz.ntmps33
  go_wp2_with fail
  refine (word_is _ 17 (insL.getD 17 Sh.none).nm _ (by decide +kernel) (by decide) (by kernel_rfl)).mono ?_
  rintro e w1 ⟨rfl, rfl⟩
  rw [show (insL.getD 17 Sh.none).nm = _ from rfl]
  go_wp2_with fail
  refine (operand_ref _ 17 (by decide)).mono ?_
  rintro e w2 ⟨rfl, rfl⟩
  rw [show ((kix 17 : Nat) : Int) = 4 from by kernel_rfl]
  go_wp2
  refine bodyPost_ret (v := .tuple #[.agg (insL.getD 17 Sh.none).cells.toArray, .bool true]) ?_ rfl ⟨rfl, HK.out⟩
  exact results_row_tmp (by rfl) _ _ ⟨w.heap.size, 0, none⟩ _ _ (by rfl) (by rfl) (run_loadVar_row _ w.heap.size 89 89 _ (0, 0) _ HX.out Tryz.underlying89 rfl size27)
set_option maxHeartbeats 4000000 in
theorem rof_18 (w : World) : Calls Tryz.prog 33 #[.int .i64 18] w fun e w' => e = .returned (.tuple #[.agg (insL.getD 18 Sh.none).cells.toArray, .bool true]) ∧ Kept (fun _ => False) w w' := by
  have hX := heap_alloc2_old w (.cells (insL.getD 18 Sh.none).cells.toArray 89) (.cells (insL.getD 18 Sh.none).cells.toArray 89)
  have hK := ((Kept.refl (fun _ => False) w).alloc (.cells (insL.getD 18 Sh.none).cells.toArray 89)).alloc (.cells (insL.getD 18 Sh.none).cells.toArray 89)
  have HX := hid_of hX
  have HK := hid_of hK
  clear hX hK
  go_enter Tryz.func33, Tryz.ntmps33
  go_wp2_with fail
  refine (word_is _ 18 (insL.getD 18 Sh.none).nm _ (by decide +kernel) (by decide) (by kernel_rfl)).mono ?_
  rintro e w1 ⟨rfl, rfl⟩
  rw [show (insL.getD 18 Sh.none).nm = _ from rfl]
  go_wp2_with fail
  refine (operand_ref _ 18 (by decide)).mono ?_
  rintro e w2 ⟨rfl, rfl⟩
  rw [show ((kix 18 : Nat) : Int) = 0 from by kernel_rfl]
  go_wp2
  refine bodyPost_ret (v := .tuple #[.agg (insL.getD 18 Sh.none).cells.toArray, .bool true]) ?_ rfl ⟨rfl, HK.out⟩
  exact results_row_tmp (by rfl) _ _ ⟨w.heap.size, 0, none⟩ _ _ (by rfl) (by rfl) (run_loadVar_row _ w.heap.size 89 89 _ (0, 0) _ HX.out Tryz.underlying89 rfl size27)
set_option maxHeartbeats 4000000 in
theorem rof_19 (w : World) : Calls Tryz.prog 33 #[.int .i64 19] w fun e w' => e = .returned (.tuple #[.agg (insL.getD 19 Sh.none).cells.toArray, .bool true]) ∧ Kept (fun _ => False) w w' := by
  have hX := heap_alloc2_old w (.cells (insL.getD 19 Sh.none).cells.toArray 89) (.cells (insL.getD 19 Sh.none).cells.toArray 89)
  have hK := ((Kept.refl (fun _ => False) w).alloc (.cells (insL.getD 19 Sh.none).cells.toArray 89)).alloc (.cells (insL.getD 19 Sh.none).cells.toArray 89)
  have HX := hid_of hX
  have HK := hid_of hK
  clear hX hK
  go_enter Tryz.func33, Tryz.ntmps33
  go_wp2_with fail
  refine (word_is _ 19 (insL.getD 19 Sh.none).nm _ (by decide +kernel) (by decide) (by kernel_rfl)).mono ?_
  rintro e w1 ⟨rfl, rfl⟩
  rw [show (insL.getD 19 Sh.none).nm = _ from rfl]
  go_wp2_with fail
  refine (operand_ref _ 19 (by decide)).mono ?_
  rintro e w2 ⟨rfl, rfl⟩
  rw [show ((kix 19 : Nat) : Int) = 5 from by kernel_rfl]
  go_wp2
  refine bodyPost_ret (v := .tuple #[.agg (insL.getD 19 Sh.none).cells.toArray, .bool true]) ?_ rfl ⟨rfl, HK.out⟩
  exact results_row_tmp (by rfl) _ _ ⟨w.heap.size, 0, none⟩ _ _ (by rfl) (by rfl) (run_loadVar_row _ w.heap.size 89 89 _ (0, 0) _ HX.out Tryz.underlying89 rfl size27)
set_option maxHeartbeats 4000000 in
theorem rof_20 (w : World) : Calls Tryz.prog 33 #[.int .i64 20] w fun e w' => e = .returned (.tuple #[.agg (insL.getD 20 Sh.none).cells.toArray, .bool true]) ∧ Kept (fun _ => False) w w' := by
  have hX := heap_alloc2_old w (.cells (insL.getD 20 Sh.none).cells.toArray 89) (.cells (insL.getD 20 Sh.none).cells.toArray 89)
  have hK := ((Kept.refl (fun _ => False) w).alloc (.cells (insL.getD 20 Sh.none).cells.toArray 89)).alloc (.cells (insL.getD 20 Sh.none).cells.toArray 89)
  have HX := hid_of hX
  have HK := hid_of hK
  clear hX hK
  go_enter Tryz.func33, Tryz.ntmps33
  go_wp2_with fail
  refine (word_is _ 20 (insL.getD 20 Sh.none).nm _ (by decide +kernel) (by decide) (by kernel_rfl)).mono ?_
  rintro e w1 ⟨rfl, rfl⟩
  rw [show (insL.getD 20 Sh.none).nm = _ from rfl]
  go_wp2_with fail
  refine (operand_ref _ 20 (by decide)).mono ?_
  rintro e w2 ⟨rfl, rfl⟩
  rw [show ((kix 20 : Nat) : Int) = 0 from by kernel_rfl]
  go_wp2
  refine bodyPost_ret (v := .tuple #[.agg (insL.getD 20 Sh.none).cells.toArray, .bool true]) ?_ rfl ⟨rfl, HK.out⟩
  exact results_row_tmp (by rfl) _ _ ⟨w.heap.size, 0, none⟩ _ _ (by rfl) (by rfl) (run_loadVar_row _ w.heap.size 89 89 _ (0, 0) _ HX.out Tryz.underlying89 rfl size27)
set_option maxHeartbeats 4000000 in
theorem rof_21 (w : World) : Calls Tryz.prog 33 #[.int .i64 21] w fun e w' => e = .returned (.tuple #[.agg (insL.getD 21 Sh.none).cells.toArray, .bool true]) ∧ Kept (fun _ => False) w w' := by
  have hX := heap_alloc2_old w (.cells (insL.getD 21 Sh.none).cells.toArray 89) (.cells (insL.getD 21 Sh.none).cells.toArray 89)
  have hK := ((Kept.refl (fun _ => False) w).alloc (.cells (insL.getD 21 Sh.none).cells.toArray 89)).alloc (.cells (insL.getD 21 Sh.none).cells.toArray 89)
  have HX := hid_of hX
  have HK := hid_of hK
  clear hX hK
  go_enter Tryz.func33, Tryz.ntmps33
  go_wp2_with fail
  refine (word_is _ 21 (insL.getD 21 Sh.none).nm _ (by decide +kernel) (by decide) (by kernel_rfl)).mono ?_
  rintro e w1 ⟨rfl, rfl⟩
  rw [show (insL.getD 21 Sh.none).nm = _ from rfl]
  go_wp2_with fail
  refine (operand_ref _ 21 (by decide)).mono ?_
  rintro e w2 ⟨rfl, rfl⟩
  rw [show ((kix 21 : Nat) : Int) = 0 from by kernel_rfl]
  go_wp2
  refine bodyPost_ret (v := .tuple #[.agg (insL.getD 21 Sh.none).cells.toArray, .bool true]) ?_ rfl ⟨rfl, HK.out⟩
  exact results_row_tmp (by rfl) _ _ ⟨w.heap.size, 0, none⟩ _ _ (by rfl) (by rfl) (run_loadVar_row _ w.heap.size 89 89 _ (0, 0) _ HX.out Tryz.underlying89 rfl size27)
set_option maxHeartbeats 4000000 in
theorem rof_22 (w : World) : Calls Tryz.prog 33 #[.int .i64 22] w fun e w' => e = .returned (.tuple #[.agg (insL.getD 22 Sh.none).cells.toArray, .bool true]) ∧ Kept (fun _ => False) w w' := by
  have hX := heap_alloc2_old w (.cells (insL.getD 22 Sh.none).cells.toArray 89) (.cells (insL.getD 22 Sh.none).cells.toArray 89)
  have hK := ((Kept.refl (fun _ => False) w).alloc (.cells (insL.getD 22 Sh.none).cells.toArray 89)).alloc (.cells (insL.getD 22 Sh.none).cells.toArray 89)
  have HX := hid_of hX
  have HK := hid_of hK
  clear hX hK
  go_enter Tryz.func33, Tryz.ntmps33
  go_wp2_with fail
  refine (word_is _ 22 (insL.getD 22 Sh.none).nm _ (by decide +kernel) (by decide) (by kernel_rfl)).mono ?_
  rintro e w1 ⟨rfl, rfl⟩
  rw [show (insL.getD 22 Sh.none).nm = _ from rfl]
  go_wp2_with fail
  refine (operand_ref _ 22 (by decide)).mono ?_
  rintro e w2 ⟨rfl, rfl⟩
  rw [show ((kix 22 : Nat) : Int) = 0 from by kernel_rfl]
  go_wp2
  refine bodyPost_ret (v := .tuple #[.agg (insL.getD 22 Sh.none).cells.toArray, .bool true]) ?_ rfl ⟨rfl, HK.out⟩
  exact results_row_tmp (by rfl) _ _ ⟨w.heap.size, 0, none⟩ _ _ (by rfl) (by rfl) (run_loadVar_row _ w.heap.size 89 89 _ (0, 0) _ HX.out Tryz.underlying89 rfl size27)
end Go.Proofs.YtgoabnehdmdikaaGreatDoor

namespace Go.Proofs.YtgoabnehdmdikaaGreatDoor
open Go.RowKit
set_option linter.unusedVariables false
set_option linter.unusedSimpArgs false
set_option maxRecDepth 100000
theorem size27b : (Tryz.prog.info? 89).map (·.size) = some 4 := by kernel_rfl

set_option maxHeartbeats 4000000 in
theorem rof_23 (w : World) : Calls Tryz.prog 33 #[.int .i64 23] w fun e w' => e = .returned (.tuple #[.agg (insL.getD 23 Sh.none).cells.toArray, .bool true]) ∧ Kept (fun _ => False) w w' := by
  have hX := heap_alloc2_old w (.cells (insL.getD 23 Sh.none).cells.toArray 89) (.cells (insL.getD 23 Sh.none).cells.toArray 89)
  have hK := ((Kept.refl (fun _ => False) w).alloc (.cells (insL.getD 23 Sh.none).cells.toArray 89)).alloc (.cells (insL.getD 23 Sh.none).cells.toArray 89)
  have HX := hid_of hX
  have HK := hid_of hK
  clear hX hK
  go_enter Tryz.func33, Tryz.ntmps33
  go_wp2_with fail
  refine (word_is _ 23 (insL.getD 23 Sh.none).nm _ (by decide +kernel) (by decide) (by kernel_rfl)).mono ?_
  rintro e w1 ⟨rfl, rfl⟩
  rw [show (insL.getD 23 Sh.none).nm = _ from rfl]
  go_wp2_with fail
  refine (operand_ref _ 23 (by decide)).mono ?_
  rintro e w2 ⟨rfl, rfl⟩
  rw [show ((kix 23 : Nat) : Int) = 0 from by kernel_rfl]
  go_wp2
  refine bodyPost_ret (v := .tuple #[.agg (insL.getD 23 Sh.none).cells.toArray, .bool true]) ?_ rfl ⟨rfl, HK.out⟩
  exact results_row_tmp (by rfl) _ _ ⟨w.heap.size, 0, none⟩ _ _ (by rfl) (by rfl) (run_loadVar_row _ w.heap.size 89 89 _ (0, 0) _ HX.out Tryz.underlying89 rfl size27b)
set_option maxHeartbeats 4000000 in
theorem rof_24 (w : World) : Calls Tryz.prog 33 #[.int .i64 24] w fun e w' => e = .returned (.tuple #[.agg (insL.getD 24 Sh.none).cells.toArray, .bool true]) ∧ Kept (fun _ => False) w w' := by
  have hX := heap_alloc2_old w (.cells (insL.getD 24 Sh.none).cells.toArray 89) (.cells (insL.getD 24 Sh.none).cells.toArray 89)
  have hK := ((Kept.refl (fun _ => False) w).alloc (.cells (insL.getD 24 Sh.none).cells.toArray 89)).alloc (.cells (insL.getD 24 Sh.none).cells.toArray 89)
  have HX := hid_of hX
  have HK := hid_of hK
  clear hX hK
  go_enter Tryz.func33, Tryz.ntmps33
  go_wp2_with fail
  refine (word_is _ 24 (insL.getD 24 Sh.none).nm _ (by decide +kernel) (by decide) (by kernel_rfl)).mono ?_
  rintro e w1 ⟨rfl, rfl⟩
  rw [show (insL.getD 24 Sh.none).nm = _ from rfl]
  go_wp2_with fail
  refine (operand_ref _ 24 (by decide)).mono ?_
  rintro e w2 ⟨rfl, rfl⟩
  rw [show ((kix 24 : Nat) : Int) = 0 from by kernel_rfl]
  go_wp2
  refine bodyPost_ret (v := .tuple #[.agg (insL.getD 24 Sh.none).cells.toArray, .bool true]) ?_ rfl ⟨rfl, HK.out⟩
  exact results_row_tmp (by rfl) _ _ ⟨w.heap.size, 0, none⟩ _ _ (by rfl) (by rfl) (run_loadVar_row _ w.heap.size 89 89 _ (0, 0) _ HX.out Tryz.underlying89 rfl size27b)
set_option maxHeartbeats 4000000 in
theorem rof_25 (w : World) : Calls Tryz.prog 33 #[.int .i64 25] w fun e w' => e = .returned (.tuple #[.agg (insL.getD 25 Sh.none).cells.toArray, .bool true]) ∧ Kept (fun _ => False) w w' := by
  have hX := heap_alloc2_old w (.cells (insL.getD 25 Sh.none).cells.toArray 89) (.cells (insL.getD 25 Sh.none).cells.toArray 89)
  have hK := ((Kept.refl (fun _ => False) w).alloc (.cells (insL.getD 25 Sh.none).cells.toArray 89)).alloc (.cells (insL.getD 25 Sh.none).cells.toArray 89)
  have HX := hid_of hX
  have HK := hid_of hK
  clear hX hK
  go_enter Tryz.func33, Tryz.ntmps33
  go_wp2_with fail
  refine (word_is _ 25 (insL.getD 25 Sh.none).nm _ (by decide +kernel) (by decide) (by kernel_rfl)).mono ?_
  rintro e w1 ⟨rfl, rfl⟩
  rw [show (insL.getD 25 Sh.none).nm = _ from rfl]
  go_wp2_with fail
  refine (operand_ref _ 25 (by decide)).mono ?_
  rintro e w2 ⟨rfl, rfl⟩
  rw [show ((kix 25 : Nat) : Int) = 0 from by kernel_rfl]
  go_wp2
  refine bodyPost_ret (v := .tuple #[.agg (insL.getD 25 Sh.none).cells.toArray, .bool true]) ?_ rfl ⟨rfl, HK.out⟩
  exact results_row_tmp (by rfl) _ _ ⟨w.heap.size, 0, none⟩ _ _ (by rfl) (by rfl) (run_loadVar_row _ w.heap.size 89 89 _ (0, 0) _ HX.out Tryz.underlying89 rfl size27b)
set_option maxHeartbeats 4000000 in
theorem rof_26 (w : World) : Calls Tryz.prog 33 #[.int .i64 26] w fun e w' => e = .returned (.tuple #[.agg (insL.getD 26 Sh.none).cells.toArray, .bool true]) ∧ Kept (fun _ => False) w w' := by
  have hX := heap_alloc2_old w (.cells (insL.getD 26 Sh.none).cells.toArray 89) (.cells (insL.getD 26 Sh.none).cells.toArray 89)
  have hK := ((Kept.refl (fun _ => False) w).alloc (.cells (insL.getD 26 Sh.none).cells.toArray 89)).alloc (.cells (insL.getD 26 Sh.none).cells.toArray 89)
  have HX := hid_of hX
  have HK := hid_of hK
  clear hX hK
  go_enter Tryz.func33, Tryz.ntmps33
  go_wp2_with fail
  refine (word_is _ 26 (insL.getD 26 Sh.none).nm _ (by decide +kernel) (by decide) (by kernel_rfl)).mono ?_
  rintro e w1 ⟨rfl, rfl⟩
  rw [show (insL.getD 26 Sh.none).nm = _ from rfl]
  go_wp2_with fail
  refine (operand_ref _ 26 (by decide)).mono ?_
  rintro e w2 ⟨rfl, rfl⟩
  rw [show ((kix 26 : Nat) : Int) = 0 from by kernel_rfl]
  go_wp2
  refine bodyPost_ret (v := .tuple #[.agg (insL.getD 26 Sh.none).cells.toArray, .bool true]) ?_ rfl ⟨rfl, HK.out⟩
  exact results_row_tmp (by rfl) _ _ ⟨w.heap.size, 0, none⟩ _ _ (by rfl) (by rfl) (run_loadVar_row _ w.heap.size 89 89 _ (0, 0) _ HX.out Tryz.underlying89 rfl size27b)
set_option maxHeartbeats 4000000 in
theorem rof_27 (w : World) : Calls Tryz.prog 33 #[.int .i64 27] w fun e w' => e = .returned (.tuple #[.agg (insL.getD 27 Sh.none).cells.toArray, .bool true]) ∧ Kept (fun _ => False) w w' := by
  have hX := heap_alloc2_old w (.cells (insL.getD 27 Sh.none).cells.toArray 89) (.cells (insL.getD 27 Sh.none).cells.toArray 89)
  have hK := ((Kept.refl (fun _ => False) w).alloc (.cells (insL.getD 27 Sh.none).cells.toArray 89)).alloc (.cells (insL.getD 27 Sh.none).cells.toArray 89)
  have HX := hid_of hX
  have HK := hid_of hK
  clear hX hK
  go_enter Tryz.func33, Tryz.ntmps33
  go_wp2_with fail
  refine (word_is _ 27 (insL.getD 27 Sh.none).nm _ (by decide +kernel) (by decide) (by kernel_rfl)).mono ?_
  rintro e w1 ⟨rfl, rfl⟩
  rw [show (insL.getD 27 Sh.none).nm = _ from rfl]
  go_wp2_with fail
  refine (operand_ref _ 27 (by decide)).mono ?_
  rintro e w2 ⟨rfl, rfl⟩
  rw [show ((kix 27 : Nat) : Int) = 0 from by kernel_rfl]
  go_wp2
  refine bodyPost_ret (v := .tuple #[.agg (insL.getD 27 Sh.none).cells.toArray, .bool true]) ?_ rfl ⟨rfl, HK.out⟩
  exact results_row_tmp (by rfl) _ _ ⟨w.heap.size, 0, none⟩ _ _ (by rfl) (by rfl) (run_loadVar_row _ w.heap.size 89 89 _ (0, 0) _ HX.out Tryz.underlying89 rfl size27b)
set_option maxHeartbeats 4000000 in
theorem rof_28 (w : World) : Calls Tryz.prog 33 #[.int .i64 28] w fun e w' => e = .returned (.tuple #[.agg (insL.getD 28 Sh.none).cells.toArray, .bool true]) ∧ Kept (fun _ => False) w w' := by
  have hX := heap_alloc2_old w (.cells (insL.getD 28 Sh.none).cells.toArray 89) (.cells (insL.getD 28 Sh.none).cells.toArray 89)
  have hK := ((Kept.refl (fun _ => False) w).alloc (.cells (insL.getD 28 Sh.none).cells.toArray 89)).alloc (.cells (insL.getD 28 Sh.none).cells.toArray 89)
  have HX := hid_of hX
  have HK := hid_of hK
  clear hX hK
  go_enter Tryz.func33, Tryz.ntmps33
  go_wp2_with fail
  refine (word_is _ 28 (insL.getD 28 Sh.none).nm _ (by decide +kernel) (by decide) (by kernel_rfl)).mono ?_
  rintro e w1 ⟨rfl, rfl⟩
  rw [show (insL.getD 28 Sh.none).nm = _ from rfl]
  go_wp2_with fail
  refine (operand_ref _ 28 (by decide)).mono ?_
  rintro e w2 ⟨rfl, rfl⟩
  rw [show ((kix 28 : Nat) : Int) = 0 from by kernel_rfl]
  go_wp2
  refine bodyPost_ret (v := .tuple #[.agg (insL.getD 28 Sh.none).cells.toArray, .bool true]) ?_ rfl ⟨rfl, HK.out⟩
  exact results_row_tmp (by rfl) _ _ ⟨w.heap.size, 0, none⟩ _ _ (by rfl) (by rfl) (run_loadVar_row _ w.heap.size 89 89 _ (0, 0) _ HX.out Tryz.underlying89 rfl size27b)
set_option maxHeartbeats 4000000 in
theorem rof_29 (w : World) : Calls Tryz.prog 33 #[.int .i64 29] w fun e w' => e = .returned (.tuple #[.agg (insL.getD 29 Sh.none).cells.toArray, .bool true]) ∧ Kept (fun _ => False) w w' := by
  have hX := heap_alloc2_old w (.cells (insL.getD 29 Sh.none).cells.toArray 89) (.cells (insL.getD 29 Sh.none).cells.toArray 89)
  have hK := ((Kept.refl (fun _ => False) w).alloc (.cells (insL.getD 29 Sh.none).cells.toArray 89)).alloc (.cells (insL.getD 29 Sh.none).cells.toArray 89)
  have HX := hid_of hX
  have HK := hid_of hK
  clear hX hK
  go_enter Tryz.func33, Tryz.ntmps33
  go_wp2_with fail
  refine (word_is _ 29 (insL.getD 29 Sh.none).nm _ (by decide +kernel) (by decide) (by kernel_rfl)).mono ?_
  rintro e w1 ⟨rfl, rfl⟩
  rw [show (insL.getD 29 Sh.none).nm = _ from rfl]
  go_wp2_with fail
  refine (operand_ref _ 29 (by decide)).mono ?_
  rintro e w2 ⟨rfl, rfl⟩
  rw [show ((kix 29 : Nat) : Int) = 0 from by kernel_rfl]
  go_wp2
  refine bodyPost_ret (v := .tuple #[.agg (insL.getD 29 Sh.none).cells.toArray, .bool true]) ?_ rfl ⟨rfl, HK.out⟩
  exact results_row_tmp (by rfl) _ _ ⟨w.heap.size, 0, none⟩ _ _ (by rfl) (by rfl) (run_loadVar_row _ w.heap.size 89 89 _ (0, 0) _ HX.out Tryz.underlying89 rfl size27b)
set_option maxHeartbeats 4000000 in
theorem rof_30 (w : World) : Calls Tryz.prog 33 #[.int .i64 30] w fun e w' => e = .returned (.tuple #[.agg (insL.getD 30 Sh.none).cells.toArray, .bool true]) ∧ Kept (fun _ => False) w w' := by
  have hX := heap_alloc2_old w (.cells (insL.getD 30 Sh.none).cells.toArray 89) (.cells (insL.getD 30 Sh.none).cells.toArray 89)
  have hK := ((Kept.refl (fun _ => False) w).alloc (.cells (insL.getD 30 Sh.none).cells.toArray 89)).alloc (.cells (insL.getD 30 Sh.none).cells.toArray 89)
  have HX := hid_of hX
  have HK := hid_of hK
  clear hX hK
  go_enter Tryz.func33, Tryz.ntmps33
  go_wp2_with fail
  refine (word_is _ 30 (insL.getD 30 Sh.none).nm _ (by decide +kernel) (by decide) (by kernel_rfl)).mono ?_
  rintro e w1 ⟨rfl, rfl⟩
  rw [show (insL.getD 30 Sh.none).nm = _ from rfl]
  go_wp2_with fail
  refine (operand_ref _ 30 (by decide)).mono ?_
  rintro e w2 ⟨rfl, rfl⟩
  rw [show ((kix 30 : Nat) : Int) = 0 from by kernel_rfl]
  go_wp2
  refine bodyPost_ret (v := .tuple #[.agg (insL.getD 30 Sh.none).cells.toArray, .bool true]) ?_ rfl ⟨rfl, HK.out⟩
  exact results_row_tmp (by rfl) _ _ ⟨w.heap.size, 0, none⟩ _ _ (by rfl) (by rfl) (run_loadVar_row _ w.heap.size 89 89 _ (0, 0) _ HX.out Tryz.underlying89 rfl size27b)
set_option maxHeartbeats 4000000 in
theorem rof_31 (w : World) : Calls Tryz.prog 33 #[.int .i64 31] w fun e w' => e = .returned (.tuple #[.agg (insL.getD 31 Sh.none).cells.toArray, .bool true]) ∧ Kept (fun _ => False) w w' := by
  have hX := heap_alloc2_old w (.cells (insL.getD 31 Sh.none).cells.toArray 89) (.cells (insL.getD 31 Sh.none).cells.toArray 89)
  have hK := ((Kept.refl (fun _ => False) w).alloc (.cells (insL.getD 31 Sh.none).cells.toArray 89)).alloc (.cells (insL.getD 31 Sh.none).cells.toArray 89)
  have HX := hid_of hX
  have HK := hid_of hK
  clear hX hK
  go_enter Tryz.func33, Tryz.ntmps33
  go_wp2_with fail
  refine (word_is _ 31 (insL.getD 31 Sh.none).nm _ (by decide +kernel) (by decide) (by kernel_rfl)).mono ?_
  rintro e w1 ⟨rfl, rfl⟩
  rw [show (insL.getD 31 Sh.none).nm = _ from rfl]
  go_wp2_with fail
  refine (operand_ref _ 31 (by decide)).mono ?_
  rintro e w2 ⟨rfl, rfl⟩
  rw [show ((kix 31 : Nat) : Int) = 0 from by kernel_rfl]
  go_wp2
  refine bodyPost_ret (v := .tuple #[.agg (insL.getD 31 Sh.none).cells.toArray, .bool true]) ?_ rfl ⟨rfl, HK.out⟩
  exact results_row_tmp (by rfl) _ _ ⟨w.heap.size, 0, none⟩ _ _ (by rfl) (by rfl) (run_loadVar_row _ w.heap.size 89 89 _ (0, 0) _ HX.out Tryz.underlying89 rfl size27b)
set_option maxHeartbeats 4000000 in
theorem rof_32 (w : World) : Calls Tryz.prog 33 #[.int .i64 32] w fun e w' => e = .returned (.tuple #[.agg (insL.getD 32 Sh.none).cells.toArray, .bool true]) ∧ Kept (fun _ => False) w w' := by
  have hX := heap_alloc2_old w (.cells (insL.getD 32 Sh.none).cells.toArray 89) (.cells (insL.getD 32 Sh.none).cells.toArray 89)
  have hK := ((Kept.refl (fun _ => False) w).alloc (.cells (insL.getD 32 Sh.none).cells.toArray 89)).alloc (.cells (insL.getD 32 Sh.none).cells.toArray 89)
  have HX := hid_of hX
  have HK := hid_of hK
  clear hX hK
  go_enter Tryz.func33, Tryz.ntmps33
  go_wp2_with fail
  refine (word_is _ 32 (insL.getD 32 Sh.none).nm _ (by decide +kernel) (by decide) (by kernel_rfl)).mono ?_
  rintro e w1 ⟨rfl, rfl⟩
  rw [show (insL.getD 32 Sh.none).nm = _ from rfl]
  go_wp2_with fail
  refine (operand_ref _ 32 (by decide)).mono ?_
  rintro e w2 ⟨rfl, rfl⟩
  rw [show ((kix 32 : Nat) : Int) = 0 from by kernel_rfl]
  go_wp2
  refine bodyPost_ret (v := .tuple #[.agg (insL.getD 32 Sh.none).cells.toArray, .bool true]) ?_ rfl ⟨rfl, HK.out⟩
  exact results_row_tmp (by rfl) _ _ ⟨w.heap.size, 0, none⟩ _ _ (by rfl) (by rfl) (run_loadVar_row _ w.heap.size 89 89 _ (0, 0) _ HX.out Tryz.underlying89 rfl size27b)
set_option maxHeartbeats 4000000 in
theorem rof_33 (w : World) : Calls Tryz.prog 33 #[.int .i64 33] w fun e w' => e = .returned (.tuple #[.agg (insL.getD 33 Sh.none).cells.toArray, .bool true]) ∧ Kept (fun _ => False) w w' := by
  have hX := heap_alloc2_old w (.cells (insL.getD 33 Sh.none).cells.toArray 89) (.cells (insL.getD 33 Sh.none).cells.toArray 89)
  have hK := ((Kept.refl (fun _ => False) w).alloc (.cells (insL.getD 33 Sh.none).cells.toArray 89)).alloc (.cells (insL.getD 33 Sh.none).cells.toArray 89)
  have HX := hid_of hX
  have HK := hid_of hK
  clear hX hK
  go_enter Tryz.func33, Tryz.ntmps33
  go_wp2_with fail
  refine (word_is _ 33 (insL.getD 33 Sh.none).nm _ (by decide +kernel) (by decide) (by kernel_rfl)).mono ?_
  rintro e w1 ⟨rfl, rfl⟩
  rw [show (insL.getD 33 Sh.none).nm = _ from rfl]
  go_wp2_with fail
  refine (operand_ref _ 33 (by decide)).mono ?_
  rintro e w2 ⟨rfl, rfl⟩
  rw [show ((kix 33 : Nat) : Int) = 0 from by kernel_rfl]
  go_wp2
  refine bodyPost_ret (v := .tuple #[.agg (insL.getD 33 Sh.none).cells.toArray, .bool true]) ?_ rfl ⟨rfl, HK.out⟩
  exact results_row_tmp (by rfl) _ _ ⟨w.heap.size, 0, none⟩ _ _ (by rfl) (by rfl) (run_loadVar_row _ w.heap.size 89 89 _ (0, 0) _ HX.out Tryz.underlying89 rfl size27b)
set_option maxHeartbeats 4000000 in
theorem rof_34 (w : World) : Calls Tryz.prog 33 #[.int .i64 34] w fun e w' => e = .returned (.tuple #[.agg (insL.getD 34 Sh.none).cells.toArray, .bool true]) ∧ Kept (fun _ => False) w w' := by
  have hX := heap_alloc2_old w (.cells (insL.getD 34 Sh.none).cells.toArray 89) (.cells (insL.getD 34 Sh.none).cells.toArray 89)
  have hK := ((Kept.refl (fun _ => False) w).alloc (.cells (insL.getD 34 Sh.none).cells.toArray 89)).alloc (.cells (insL.getD 34 Sh.none).cells.toArray 89)
  have HX := hid_of hX
  have HK := hid_of hK
  clear hX hK
  go_enter Tryz.func33, Tryz.ntmps33
  go_wp2_with fail
  refine (word_is _ 34 (insL.getD 34 Sh.none).nm _ (by decide +kernel) (by decide) (by kernel_rfl)).mono ?_
  rintro e w1 ⟨rfl, rfl⟩
  rw [show (insL.getD 34 Sh.none).nm = _ from rfl]
  go_wp2_with fail
  refine (operand_ref _ 34 (by decide)).mono ?_
  rintro e w2 ⟨rfl, rfl⟩
  rw [show ((kix 34 : Nat) : Int) = 0 from by kernel_rfl]
  go_wp2
  refine bodyPost_ret (v := .tuple #[.agg (insL.getD 34 Sh.none).cells.toArray, .bool true]) ?_ rfl ⟨rfl, HK.out⟩
  exact results_row_tmp (by rfl) _ _ ⟨w.heap.size, 0, none⟩ _ _ (by rfl) (by rfl) (run_loadVar_row _ w.heap.size 89 89 _ (0, 0) _ HX.out Tryz.underlying89 rfl size27b)
set_option maxHeartbeats 4000000 in
theorem rof_35 (w : World) : Calls Tryz.prog 33 #[.int .i64 35] w fun e w' => e = .returned (.tuple #[.agg (insL.getD 35 Sh.none).cells.toArray, .bool true]) ∧ Kept (fun _ => False) w w' := by
  have hX := heap_alloc2_old w (.cells (insL.getD 35 Sh.none).cells.toArray 89) (.cells (insL.getD 35 Sh.none).cells.toArray 89)
  have hK := ((Kept.refl (fun _ => False) w).alloc (.cells (insL.getD 35 Sh.none).cells.toArray 89)).alloc (.cells (insL.getD 35 Sh.none).cells.toArray 89)
  have HX := hid_of hX
  have HK := hid_of hK
  clear hX hK
  go_enter Tryz.func33, Tryz.ntmps33
  go_wp2_with fail
  refine (word_is _ 35 (insL.getD 35 Sh.none).nm _ (by decide +kernel) (by decide) (by kernel_rfl)).mono ?_
  rintro e w1 ⟨rfl, rfl⟩
  rw [show (insL.getD 35 Sh.none).nm = _ from rfl]
  go_wp2_with fail
  refine (operand_ref _ 35 (by decide)).mono ?_
  rintro e w2 ⟨rfl, rfl⟩
  rw [show ((kix 35 : Nat) : Int) = 0 from by kernel_rfl]
  go_wp2
  refine bodyPost_ret (v := .tuple #[.agg (insL.getD 35 Sh.none).cells.toArray, .bool true]) ?_ rfl ⟨rfl, HK.out⟩
  exact results_row_tmp (by rfl) _ _ ⟨w.heap.size, 0, none⟩ _ _ (by rfl) (by rfl) (run_loadVar_row _ w.heap.size 89 89 _ (0, 0) _ HX.out Tryz.underlying89 rfl size27b)
set_option maxHeartbeats 4000000 in
theorem rof_36 (w : World) : Calls Tryz.prog 33 #[.int .i64 36] w fun e w' => e = .returned (.tuple #[.agg (insL.getD 36 Sh.none).cells.toArray, .bool true]) ∧ Kept (fun _ => False) w w' := by
  have hX := heap_alloc2_old w (.cells (insL.getD 36 Sh.none).cells.toArray 89) (.cells (insL.getD 36 Sh.none).cells.toArray 89)
  have hK := ((Kept.refl (fun _ => False) w).alloc (.cells (insL.getD 36 Sh.none).cells.toArray 89)).alloc (.cells (insL.getD 36 Sh.none).cells.toArray 89)
  have HX := hid_of hX
  have HK := hid_of hK
  clear hX hK
  go_enter Tryz.func33, Tryz.ntmps33
  go_wp2_with fail
  refine (word_is _ 36 (insL.getD 36 Sh.none).nm _ (by decide +kernel) (by decide) (by kernel_rfl)).mono ?_
  rintro e w1 ⟨rfl, rfl⟩
  rw [show (insL.getD 36 Sh.none).nm = _ from rfl]
  go_wp2_with fail
  refine (operand_ref _ 36 (by decide)).mono ?_
  rintro e w2 ⟨rfl, rfl⟩
  rw [show ((kix 36 : Nat) : Int) = 0 from by kernel_rfl]
  go_wp2
  refine bodyPost_ret (v := .tuple #[.agg (insL.getD 36 Sh.none).cells.toArray, .bool true]) ?_ rfl ⟨rfl, HK.out⟩
  exact results_row_tmp (by rfl) _ _ ⟨w.heap.size, 0, none⟩ _ _ (by rfl) (by rfl) (run_loadVar_row _ w.heap.size 89 89 _ (0, 0) _ HX.out Tryz.underlying89 rfl size27b)
set_option maxHeartbeats 4000000 in
theorem rof_37 (w : World) : Calls Tryz.prog 33 #[.int .i64 37] w fun e w' => e = .returned (.tuple #[.agg (insL.getD 37 Sh.none).cells.toArray, .bool true]) ∧ Kept (fun _ => False) w w' := by
  have hX := heap_alloc2_old w (.cells (insL.getD 37 Sh.none).cells.toArray 89) (.cells (insL.getD 37 Sh.none).cells.toArray 89)
  have hK := ((Kept.refl (fun _ => False) w).alloc (.cells (insL.getD 37 Sh.none).cells.toArray 89)).alloc (.cells (insL.getD 37 Sh.none).cells.toArray 89)
  have HX := hid_of hX
  have HK := hid_of hK
  clear hX hK
  go_enter Tryz.func33, Tryz.ntmps33
  go_wp2_with fail
  refine (word_is _ 37 (insL.getD 37 Sh.none).nm _ (by decide +kernel) (by decide) (by kernel_rfl)).mono ?_
  rintro e w1 ⟨rfl, rfl⟩
  rw [show (insL.getD 37 Sh.none).nm = _ from rfl]
  go_wp2_with fail
  refine (operand_ref _ 37 (by decide)).mono ?_
  rintro e w2 ⟨rfl, rfl⟩
  rw [show ((kix 37 : Nat) : Int) = 0 from by kernel_rfl]
  go_wp2
  refine bodyPost_ret (v := .tuple #[.agg (insL.getD 37 Sh.none).cells.toArray, .bool true]) ?_ rfl ⟨rfl, HK.out⟩
  exact results_row_tmp (by rfl) _ _ ⟨w.heap.size, 0, none⟩ _ _ (by rfl) (by rfl) (run_loadVar_row _ w.heap.size 89 89 _ (0, 0) _ HX.out Tryz.underlying89 rfl size27b)
set_option maxHeartbeats 4000000 in
theorem rof_38 (w : World) : Calls Tryz.prog 33 #[.int .i64 38] w fun e w' => e = .returned (.tuple #[.agg (insL.getD 38 Sh.none).cells.toArray, .bool true]) ∧ Kept (fun _ => False) w w' := by
  have hX := heap_alloc2_old w (.cells (insL.getD 38 Sh.none).cells.toArray 89) (.cells (insL.getD 38 Sh.none).cells.toArray 89)
  have hK := ((Kept.refl (fun _ => False) w).alloc (.cells (insL.getD 38 Sh.none).cells.toArray 89)).alloc (.cells (insL.getD 38 Sh.none).cells.toArray 89)
  have HX := hid_of hX
  have HK := hid_of hK
  clear hX hK
  go_enter Tryz.func33, Tryz.ntmps33
  go_wp2_with fail
  refine (word_is _ 38 (insL.getD 38 Sh.none).nm _ (by decide +kernel) (by decide) (by kernel_rfl)).mono ?_
  rintro e w1 ⟨rfl, rfl⟩
  rw [show (insL.getD 38 Sh.none).nm = _ from rfl]
  go_wp2_with fail
  refine (operand_ref _ 38 (by decide)).mono ?_
  rintro e w2 ⟨rfl, rfl⟩
  rw [show ((kix 38 : Nat) : Int) = 0 from by kernel_rfl]
  go_wp2
  refine bodyPost_ret (v := .tuple #[.agg (insL.getD 38 Sh.none).cells.toArray, .bool true]) ?_ rfl ⟨rfl, HK.out⟩
  exact results_row_tmp (by rfl) _ _ ⟨w.heap.size, 0, none⟩ _ _ (by rfl) (by rfl) (run_loadVar_row _ w.heap.size 89 89 _ (0, 0) _ HX.out Tryz.underlying89 rfl size27b)
set_option maxHeartbeats 4000000 in
theorem rof_39 (w : World) : Calls Tryz.prog 33 #[.int .i64 39] w fun e w' => e = .returned (.tuple #[.agg (insL.getD 39 Sh.none).cells.toArray, .bool true]) ∧ Kept (fun _ => False) w w' := by
  have hX := heap_alloc2_old w (.cells (insL.getD 39 Sh.none).cells.toArray 89) (.cells (insL.getD 39 Sh.none).cells.toArray 89)
  have hK := ((Kept.refl (fun _ => False) w).alloc (.cells (insL.getD 39 Sh.none).cells.toArray 89)).alloc (.cells (insL.getD 39 Sh.none).cells.toArray 89)
  have HX := hid_of hX
  have HK := hid_of hK
  clear hX hK
  go_enter Tryz.func33, Tryz.ntmps33
  go_wp2_with fail
  refine (word_is _ 39 (insL.getD 39 Sh.none).nm _ (by decide +kernel) (by decide) (by kernel_rfl)).mono ?_
  rintro e w1 ⟨rfl, rfl⟩
  rw [show (insL.getD 39 Sh.none).nm = _ from rfl]
  go_wp2_with fail
  refine (operand_ref _ 39 (by decide)).mono ?_
  rintro e w2 ⟨rfl, rfl⟩
  rw [show ((kix 39 : Nat) : Int) = 0 from by kernel_rfl]
  go_wp2
  refine bodyPost_ret (v := .tuple #[.agg (insL.getD 39 Sh.none).cells.toArray, .bool true]) ?_ rfl ⟨rfl, HK.out⟩
  exact results_row_tmp (by rfl) _ _ ⟨w.heap.size, 0, none⟩ _ _ (by rfl) (by rfl) (run_loadVar_row _ w.heap.size 89 89 _ (0, 0) _ HX.out Tryz.underlying89 rfl size27b)
set_option maxHeartbeats 4000000 in
theorem rof_40 (w : World) : Calls Tryz.prog 33 #[.int .i64 40] w fun e w' => e = .returned (.tuple #[.agg (insL.getD 40 Sh.none).cells.toArray, .bool true]) ∧ Kept (fun _ => False) w w' := by
  have hX := heap_alloc2_old w (.cells (insL.getD 40 Sh.none).cells.toArray 89) (.cells (insL.getD 40 Sh.none).cells.toArray 89)
  have hK := ((Kept.refl (fun _ => False) w).alloc (.cells (insL.getD 40 Sh.none).cells.toArray 89)).alloc (.cells (insL.getD 40 Sh.none).cells.toArray 89)
  have HX := hid_of hX
  have HK := hid_of hK
  clear hX hK
  go_enter Tryz.func33, Tryz.ntmps33
  go_wp2_with fail
  refine (word_is _ 40 (insL.getD 40 Sh.none).nm _ (by decide +kernel) (by decide) (by kernel_rfl)).mono ?_
  rintro e w1 ⟨rfl, rfl⟩
  rw [show (insL.getD 40 Sh.none).nm = _ from rfl]
  go_wp2_with fail
  refine (operand_ref _ 40 (by decide)).mono ?_
  rintro e w2 ⟨rfl, rfl⟩
  rw [show ((kix 40 : Nat) : Int) = 0 from by kernel_rfl]
  go_wp2
  refine bodyPost_ret (v := .tuple #[.agg (insL.getD 40 Sh.none).cells.toArray, .bool true]) ?_ rfl ⟨rfl, HK.out⟩
  exact results_row_tmp (by rfl) _ _ ⟨w.heap.size, 0, none⟩ _ _ (by rfl) (by rfl) (run_loadVar_row _ w.heap.size 89 89 _ (0, 0) _ HX.out Tryz.underlying89 rfl size27b)
set_option maxHeartbeats 4000000 in
theorem rof_41 (w : World) : Calls Tryz.prog 33 #[.int .i64 41] w fun e w' => e = .returned (.tuple #[.agg (insL.getD 41 Sh.none).cells.toArray, .bool true]) ∧ Kept (fun _ => False) w w' := by
  have hX := heap_alloc2_old w (.cells (insL.getD 41 Sh.none).cells.toArray 89) (.cells (insL.getD 41 Sh.none).cells.toArray 89)
  have hK := ((Kept.refl (fun _ => False) w).alloc (.cells (insL.getD 41 Sh.none).cells.toArray 89)).alloc (.cells (insL.getD 41 Sh.none).cells.toArray 89)
  have HX := hid_of hX
  have HK := hid_of hK
  clear hX hK
  go_enter Tryz.func33, Tryz.ntmps33
  go_wp2_with fail
  refine (word_is _ 41 (insL.getD 41 Sh.none).nm _ (by decide +kernel) (by decide) (by kernel_rfl)).mono ?_
  rintro e w1 ⟨rfl, rfl⟩
  rw [show (insL.getD 41 Sh.none).nm = _ from rfl]
  go_wp2_with fail
  refine (operand_ref _ 41 (by decide)).mono ?_
  rintro e w2 ⟨rfl, rfl⟩
  rw [show ((kix 41 : Nat) : Int) = 0 from by kernel_rfl]
  go_wp2
  refine bodyPost_ret (v := .tuple #[.agg (insL.getD 41 Sh.none).cells.toArray, .bool true]) ?_ rfl ⟨rfl, HK.out⟩
  exact results_row_tmp (by rfl) _ _ ⟨w.heap.size, 0, none⟩ _ _ (by rfl) (by rfl) (run_loadVar_row _ w.heap.size 89 89 _ (0, 0) _ HX.out Tryz.underlying89 rfl size27b)
set_option maxHeartbeats 4000000 in
theorem rof_42 (w : World) : Calls Tryz.prog 33 #[.int .i64 42] w fun e w' => e = .returned (.tuple #[.agg (insL.getD 42 Sh.none).cells.toArray, .bool true]) ∧ Kept (fun _ => False) w w' := by
  have hX := heap_alloc2_old w (.cells (insL.getD 42 Sh.none).cells.toArray 89) (.cells (insL.getD 42 Sh.none).cells.toArray 89)
  have hK := ((Kept.refl (fun _ => False) w).alloc (.cells (insL.getD 42 Sh.none).cells.toArray 89)).alloc (.cells (insL.getD 42 Sh.none).cells.toArray 89)
  have HX := hid_of hX
  have HK := hid_of hK
  clear hX hK
  go_enter Tryz.func33, Tryz.ntmps33
  go_wp2_with fail
  refine (word_is _ 42 (insL.getD 42 Sh.none).nm _ (by decide +kernel) (by decide) (by kernel_rfl)).mono ?_
  rintro e w1 ⟨rfl, rfl⟩
  rw [show (insL.getD 42 Sh.none).nm = _ from rfl]
  go_wp2_with fail
  refine (operand_ref _ 42 (by decide)).mono ?_
  rintro e w2 ⟨rfl, rfl⟩
  rw [show ((kix 42 : Nat) : Int) = 0 from by kernel_rfl]
  go_wp2
  refine bodyPost_ret (v := .tuple #[.agg (insL.getD 42 Sh.none).cells.toArray, .bool true]) ?_ rfl ⟨rfl, HK.out⟩
  exact results_row_tmp (by rfl) _ _ ⟨w.heap.size, 0, none⟩ _ _ (by rfl) (by rfl) (run_loadVar_row _ w.heap.size 89 89 _ (0, 0) _ HX.out Tryz.underlying89 rfl size27b)
set_option maxHeartbeats 4000000 in
theorem rof_43 (w : World) : Calls Tryz.prog 33 #[.int .i64 43] w fun e w' => e = .returned (.tuple #[.agg (insL.getD 43 Sh.none).cells.toArray, .bool true]) ∧ Kept (fun _ => False) w w' := by
  have hX := heap_alloc2_old w (.cells (insL.getD 43 Sh.none).cells.toArray 89) (.cells (insL.getD 43 Sh.none).cells.toArray 89)
  have hK := ((Kept.refl (fun _ => False) w).alloc (.cells (insL.getD 43 Sh.none).cells.toArray 89)).alloc (.cells (insL.getD 43 Sh.none).cells.toArray 89)
  have HX := hid_of hX
  have HK := hid_of hK
  clear hX hK
  go_enter Tryz.func33, Tryz.ntmps33
  go_wp2_with fail
  refine (word_is _ 43 (insL.getD 43 Sh.none).nm _ (by decide +kernel) (by decide) (by kernel_rfl)).mono ?_
  rintro e w1 ⟨rfl, rfl⟩
  rw [show (insL.getD 43 Sh.none).nm = _ from rfl]
  go_wp2_with fail
  refine (operand_ref _ 43 (by decide)).mono ?_
  rintro e w2 ⟨rfl, rfl⟩
  rw [show ((kix 43 : Nat) : Int) = 0 from by kernel_rfl]
  go_wp2
  refine bodyPost_ret (v := .tuple #[.agg (insL.getD 43 Sh.none).cells.toArray, .bool true]) ?_ rfl ⟨rfl, HK.out⟩
  exact results_row_tmp (by rfl) _ _ ⟨w.heap.size, 0, none⟩ _ _ (by rfl) (by rfl) (run_loadVar_row _ w.heap.size 89 89 _ (0, 0) _ HX.out Tryz.underlying89 rfl size27b)
set_option maxHeartbeats 4000000 in
theorem rof_44 (w : World) : Calls Tryz.prog 33 #[.int .i64 44] w fun e w' => e = .returned (.tuple #[.agg (insL.getD 44 Sh.none).cells.toArray, .bool true]) ∧ Kept (fun _ => False) w w' := by
  have hX := heap_alloc2_old w (.cells (insL.getD 44 Sh.none).cells.toArray 89) (.cells (insL.getD 44 Sh.none).cells.toArray 89)
  have hK := ((Kept.refl (fun _ => False) w).alloc (.cells (insL.getD 44 Sh.none).cells.toArray 89)).alloc (.cells (insL.getD 44 Sh.none).cells.toArray 89)
  have HX := hid_of hX
  have HK := hid_of hK
  clear hX hK
  go_enter Tryz.func33, Tryz.ntmps33
  go_wp2_with fail
  refine (word_is _ 44 (insL.getD 44 Sh.none).nm _ (by decide +kernel) (by decide) (by kernel_rfl)).mono ?_
  rintro e w1 ⟨rfl, rfl⟩
  rw [show (insL.getD 44 Sh.none).nm = _ from rfl]
  go_wp2_with fail
  refine (operand_ref _ 44 (by decide)).mono ?_
  rintro e w2 ⟨rfl, rfl⟩
  rw [show ((kix 44 : Nat) : Int) = 0 from by kernel_rfl]
  go_wp2
  refine bodyPost_ret (v := .tuple #[.agg (insL.getD 44 Sh.none).cells.toArray, .bool true]) ?_ rfl ⟨rfl, HK.out⟩
  exact results_row_tmp (by rfl) _ _ ⟨w.heap.size, 0, none⟩ _ _ (by rfl) (by rfl) (run_loadVar_row _ w.heap.size 89 89 _ (0, 0) _ HX.out Tryz.underlying89 rfl size27b)
set_option maxHeartbeats 4000000 in
theorem rof_45 (w : World) : Calls Tryz.prog 33 #[.int .i64 45] w fun e w' => e = .returned (.tuple #[.agg (insL.getD 45 Sh.none).cells.toArray, .bool true]) ∧ Kept (fun _ => False) w w' := by
  have hX := heap_alloc2_old w (.cells (insL.getD 45 Sh.none).cells.toArray 89) (.cells (insL.getD 45 Sh.none).cells.toArray 89)
  have hK := ((Kept.refl (fun _ => False) w).alloc (.cells (insL.getD 45 Sh.none).cells.toArray 89)).alloc (.cells (insL.getD 45 Sh.none).cells.toArray 89)
  have HX := hid_of hX
  have HK := hid_of hK
  clear hX hK
  go_enter Tryz.func33, Tryz.ntmps33
  go_wp2_with fail
  refine (word_is _ 45 (insL.getD 45 Sh.none).nm _ (by decide +kernel) (by decide) (by kernel_rfl)).mono ?_
  rintro e w1 ⟨rfl, rfl⟩
  rw [show (insL.getD 45 Sh.none).nm = _ from rfl]
  go_wp2_with fail
  refine (operand_ref _ 45 (by decide)).mono ?_
  rintro e w2 ⟨rfl, rfl⟩
  rw [show ((kix 45 : Nat) : Int) = 0 from by kernel_rfl]
  go_wp2
  refine bodyPost_ret (v := .tuple #[.agg (insL.getD 45 Sh.none).cells.toArray, .bool true]) ?_ rfl ⟨rfl, HK.out⟩
  exact results_row_tmp (by rfl) _ _ ⟨w.heap.size, 0, none⟩ _ _ (by rfl) (by rfl) (run_loadVar_row _ w.heap.size 89 89 _ (0, 0) _ HX.out Tryz.underlying89 rfl size27b)
end Go.Proofs.YtgoabnehdmdikaaGreatDoor

namespace Go.Proofs.YtgoabnehdmdikaaGreatDoor
open Go.RowKit
set_option linter.unusedVariables false
set_option linter.unusedSimpArgs false
set_option maxRecDepth 100000

theorem rof_all (w : World) : ∀ k : Nat, k < 46 → Calls Tryz.prog 33 #[.int .i64 (k : Int)] w fun e w' => e = .returned (.tuple #[.agg (insL.getD k Sh.none).cells.toArray, .bool true]) ∧ Kept (fun _ => False) w w'
  | 0, _ => rof_0 w
  | 1, _ => rof_1 w
  | 2, _ => rof_2 w
  | 3, _ => rof_3 w
  | 4, _ => rof_4 w
  | 5, _ => rof_5 w
  | 6, _ => rof_6 w
  | 7, _ => rof_7 w
  | 8, _ => rof_8 w
  | 9, _ => rof_9 w
  | 10, _ => rof_10 w
  | 11, _ => rof_11 w
  | 12, _ => rof_12 w
  | 13, _ => rof_13 w
  | 14, _ => rof_14 w
  | 15, _ => rof_15 w
  | 16, _ => rof_16 w
  | 17, _ => rof_17 w
  | 18, _ => rof_18 w
  | 19, _ => rof_19 w
  | 20, _ => rof_20 w
  | 21, _ => rof_21 w
  | 22, _ => rof_22 w
  | 23, _ => rof_23 w
  | 24, _ => rof_24 w
  | 25, _ => rof_25 w
  | 26, _ => rof_26 w
  | 27, _ => rof_27 w
  | 28, _ => rof_28 w
  | 29, _ => rof_29 w
  | 30, _ => rof_30 w
  | 31, _ => rof_31 w
  | 32, _ => rof_32 w
  | 33, _ => rof_33 w
  | 34, _ => rof_34 w
  | 35, _ => rof_35 w
  | 36, _ => rof_36 w
  | 37, _ => rof_37 w
  | 38, _ => rof_38 w
  | 39, _ => rof_39 w
  | 40, _ => rof_40 w
  | 41, _ => rof_41 w
  | 42, _ => rof_42 w
  | 43, _ => rof_43 w
  | 44, _ => rof_44 w
  | 45, _ => rof_45 w
  | k + 46, h => absurd h (by omega)

set_option maxHeartbeats 4000000 in
theorem rof_out (n : Int) (w : World) (h : ¬ (0 ≤ n ∧ n < 46)) (hn0 : -9223372036854775808 ≤ n) (hn1 : n < 9223372036854775808) : Calls Tryz.prog 33 #[.int .i64 n] w fun e w' => e = .returned (.tuple #[.agg Sh.none.cells.toArray, .bool false]) ∧ Kept (fun _ => False) w w' := by
  have HX := hid_of (heap_alloc_new w (.cells Sh.none.cells.toArray 89))
  have HK := hid_of ((Kept.refl (fun _ => False) w).alloc (.cells Sh.none.cells.toArray 89))
  have hd : (decide (n < 0) || decide ((46 : Int) ≤ n)) = true := by
    rw [Bool.or_eq_true, decide_eq_true_iff, decide_eq_true_iff]
    omega
  clear h
  go_enter Tryz.func33, Tryz.ntmps33
  go_wp2
  all_goals
    refine bodyPost_ret (v := .tuple #[.agg Sh.none.cells.toArray, .bool false]) ?_ rfl ⟨rfl, HK.out⟩
    exact results_row_tmp (by rfl) _ _ ⟨w.heap.size, 0, none⟩ _ _ (by rfl) (by rfl) (run_loadVar_row _ w.heap.size 89 89 _ (0, 0) _ HX.out Tryz.underlying89 rfl size27)

theorem of_ref (n : Int) (w : World) (hn0 : -9223372036854775808 ≤ n) (hn1 : n < 9223372036854775808) :
    Calls Tryz.prog 33 #[.int .i64 n] w fun e w' => e = .returned (.tuple #[.agg (rowS insL n).cells.toArray, .bool (isRow insL n)]) ∧ Kept (fun _ => False) w w' := by
  by_cases h : 0 ≤ n ∧ n < 46
  · obtain ⟨k, rfl⟩ : ∃ k : Nat, n = k := ⟨n.toNat, by omega⟩
    have hk : k < 46 := by omega
    rw [(row_at (L := insL) hk).1, (row_at (L := insL) hk).2]
    exact rof_all w k hk
  · rw [show rowS insL n = Sh.none from if_neg h, show isRow insL n = false from decide_eq_false h]
    exact rof_out n w h hn0 hn1
/-- The reference's text of names. -/
def namesS : ByteArray := ⟨#[110, 111, 112, 32, 104, 97, 108, 116, 32, 97, 98, 111, 114, 116, 32, 110, 117, 109, 32, 112, 111, 112, 32, 99, 111, 112, 121, 32, 115, 119, 97, 112, 32, 103, 101, 116, 32, 115, 101, 116, 32, 108, 111, 97, 100, 32, 115, 116, 111, 114, 101, 32, 108, 111, 97, 100, 56, 32, 115, 116, 111, 114, 101, 56, 32, 115, 105, 122, 101, 32, 106, 117, 109, 112, 32, 122, 101, 114, 111, 32, 110, 111, 116, 122, 101, 114, 111, 32, 99, 97, 108, 108, 32, 114, 101, 116, 32, 115, 121, 115, 32, 97, 100, 100, 32, 115, 117, 98, 32, 109, 117, 108, 32, 100, 105, 118, 32, 114, 101, 109, 32, 97, 110, 100, 32, 111, 114, 32, 120, 111, 114, 32, 115, 104, 108, 32, 115, 104, 114, 32, 117, 115, 104, 114, 32, 101, 113, 32, 108, 116, 32, 117, 108, 116, 32, 110, 101, 103, 32, 110, 111, 116, 32, 102, 97, 100, 100, 32, 102, 115, 117, 98, 32, 102, 109, 117, 108, 32, 102, 100, 105, 118, 32, 102, 101, 113, 32, 102, 108, 116, 32, 102, 110, 101, 103, 32, 102, 114, 111, 111, 116, 32, 116, 111, 102, 32, 116, 111, 105, 32]⟩
def callsS : ByteArray := ⟨#[111, 112, 101, 110, 32, 114, 101, 97, 100, 32, 119, 114, 105, 116, 101, 32, 108, 105, 115, 116, 32, 99, 108, 111, 115, 101, 32]⟩
end Go.Proofs.YtgoabnehdmdikaaGreatDoor

namespace Go.Proofs.YtgoabnehdmdikaaGreatDoor
open Go.RowKit
set_option linter.unusedVariables false
set_option linter.unusedSimpArgs false
set_option maxRecDepth 100000

set_option maxHeartbeats 4000000 in
theorem rsys_out (n : Int) (w : World) (h : ¬ (0 ≤ n ∧ n < 5)) (hn0 : -9223372036854775808 ≤ n) (hn1 : n < 9223372036854775808) : Calls Tryz.prog 50 #[.int .i64 n] w fun e w' => e = .returned (.tuple #[.agg Sh.none.cells.toArray, .bool false]) ∧ Kept (fun _ => False) w w' := by
  have HX := hid_of (heap_alloc_new w (.cells Sh.none.cells.toArray 89))
  have HK := hid_of ((Kept.refl (fun _ => False) w).alloc (.cells Sh.none.cells.toArray 89))
  have hd : (decide (n < 0) || decide ((5 : Int) ≤ n)) = true := by
    rw [Bool.or_eq_true, decide_eq_true_iff, decide_eq_true_iff]
    omega
  clear h
  go_enter Tryz.func50, Tryz.ntmps50
  go_wp2
  all_goals
    refine bodyPost_ret (v := .tuple #[.agg Sh.none.cells.toArray, .bool false]) ?_ rfl ⟨rfl, HK.out⟩
    exact results_row_tmp (by rfl) _ _ ⟨w.heap.size, 0, none⟩ _ _ (by rfl) (by rfl) (run_loadVar_row _ w.heap.size 89 89 _ (0, 0) _ HX.out Tryz.underlying89 rfl size27)
set_option maxHeartbeats 4000000 in
theorem rsys_0 (w : World) : Calls Tryz.prog 50 #[.int .i64 0] w fun e w' => e = .returned (.tuple #[.agg (sysL.getD 0 Sh.none).cells.toArray, .bool true]) ∧ Kept (fun _ => False) w w' := by
  have hX := heap_alloc2_old w (.cells (sysL.getD 0 Sh.none).cells.toArray 89) (.cells (sysL.getD 0 Sh.none).cells.toArray 89)
  have hK := ((Kept.refl (fun _ => False) w).alloc (.cells (sysL.getD 0 Sh.none).cells.toArray 89)).alloc (.cells (sysL.getD 0 Sh.none).cells.toArray 89)
  have HX := hid_of hX
  have HK := hid_of hK
  clear hX hK
  go_enter Tryz.func50, Tryz.ntmps50
  go_wp2_with fail
  refine (word_is _ 0 (sysL.getD 0 Sh.none).nm _ (by decide +kernel) (by decide) (by kernel_rfl)).mono ?_
  rintro e w1 ⟨rfl, rfl⟩
  rw [show (sysL.getD 0 Sh.none).nm = _ from rfl]
  go_wp2
  refine bodyPost_ret (v := .tuple #[.agg (sysL.getD 0 Sh.none).cells.toArray, .bool true]) ?_ rfl ⟨rfl, HK.out⟩
  exact results_row_tmp (by rfl) _ _ ⟨w.heap.size, 0, none⟩ _ _ (by rfl) (by rfl) (run_loadVar_row _ w.heap.size 89 89 _ (0, 0) _ HX.out Tryz.underlying89 rfl size27)
set_option maxHeartbeats 4000000 in
theorem rsys_1 (w : World) : Calls Tryz.prog 50 #[.int .i64 1] w fun e w' => e = .returned (.tuple #[.agg (sysL.getD 1 Sh.none).cells.toArray, .bool true]) ∧ Kept (fun _ => False) w w' := by
  have hX := heap_alloc2_old w (.cells (sysL.getD 1 Sh.none).cells.toArray 89) (.cells (sysL.getD 1 Sh.none).cells.toArray 89)
  have hK := ((Kept.refl (fun _ => False) w).alloc (.cells (sysL.getD 1 Sh.none).cells.toArray 89)).alloc (.cells (sysL.getD 1 Sh.none).cells.toArray 89)
  have HX := hid_of hX
  have HK := hid_of hK
  clear hX hK
  go_enter Tryz.func50, Tryz.ntmps50
  go_wp2_with fail
  refine (word_is _ 1 (sysL.getD 1 Sh.none).nm _ (by decide +kernel) (by decide) (by kernel_rfl)).mono ?_
  rintro e w1 ⟨rfl, rfl⟩
  rw [show (sysL.getD 1 Sh.none).nm = _ from rfl]
  go_wp2
  refine bodyPost_ret (v := .tuple #[.agg (sysL.getD 1 Sh.none).cells.toArray, .bool true]) ?_ rfl ⟨rfl, HK.out⟩
  exact results_row_tmp (by rfl) _ _ ⟨w.heap.size, 0, none⟩ _ _ (by rfl) (by rfl) (run_loadVar_row _ w.heap.size 89 89 _ (0, 0) _ HX.out Tryz.underlying89 rfl size27)
set_option maxHeartbeats 4000000 in
theorem rsys_2 (w : World) : Calls Tryz.prog 50 #[.int .i64 2] w fun e w' => e = .returned (.tuple #[.agg (sysL.getD 2 Sh.none).cells.toArray, .bool true]) ∧ Kept (fun _ => False) w w' := by
  have hX := heap_alloc2_old w (.cells (sysL.getD 2 Sh.none).cells.toArray 89) (.cells (sysL.getD 2 Sh.none).cells.toArray 89)
  have hK := ((Kept.refl (fun _ => False) w).alloc (.cells (sysL.getD 2 Sh.none).cells.toArray 89)).alloc (.cells (sysL.getD 2 Sh.none).cells.toArray 89)
  have HX := hid_of hX
  have HK := hid_of hK
  clear hX hK
  go_enter Tryz.func50, Tryz.ntmps50
  go_wp2_with fail
  refine (word_is _ 2 (sysL.getD 2 Sh.none).nm _ (by decide +kernel) (by decide) (by kernel_rfl)).mono ?_
  rintro e w1 ⟨rfl, rfl⟩
  rw [show (sysL.getD 2 Sh.none).nm = _ from rfl]
  go_wp2
  refine bodyPost_ret (v := .tuple #[.agg (sysL.getD 2 Sh.none).cells.toArray, .bool true]) ?_ rfl ⟨rfl, HK.out⟩
  exact results_row_tmp (by rfl) _ _ ⟨w.heap.size, 0, none⟩ _ _ (by rfl) (by rfl) (run_loadVar_row _ w.heap.size 89 89 _ (0, 0) _ HX.out Tryz.underlying89 rfl size27)
set_option maxHeartbeats 4000000 in
theorem rsys_3 (w : World) : Calls Tryz.prog 50 #[.int .i64 3] w fun e w' => e = .returned (.tuple #[.agg (sysL.getD 3 Sh.none).cells.toArray, .bool true]) ∧ Kept (fun _ => False) w w' := by
  have hX := heap_alloc2_old w (.cells (sysL.getD 3 Sh.none).cells.toArray 89) (.cells (sysL.getD 3 Sh.none).cells.toArray 89)
  have hK := ((Kept.refl (fun _ => False) w).alloc (.cells (sysL.getD 3 Sh.none).cells.toArray 89)).alloc (.cells (sysL.getD 3 Sh.none).cells.toArray 89)
  have HX := hid_of hX
  have HK := hid_of hK
  clear hX hK
  go_enter Tryz.func50, Tryz.ntmps50
  go_wp2_with fail
  refine (word_is _ 3 (sysL.getD 3 Sh.none).nm _ (by decide +kernel) (by decide) (by kernel_rfl)).mono ?_
  rintro e w1 ⟨rfl, rfl⟩
  rw [show (sysL.getD 3 Sh.none).nm = _ from rfl]
  go_wp2
  refine bodyPost_ret (v := .tuple #[.agg (sysL.getD 3 Sh.none).cells.toArray, .bool true]) ?_ rfl ⟨rfl, HK.out⟩
  exact results_row_tmp (by rfl) _ _ ⟨w.heap.size, 0, none⟩ _ _ (by rfl) (by rfl) (run_loadVar_row _ w.heap.size 89 89 _ (0, 0) _ HX.out Tryz.underlying89 rfl size27)
set_option maxHeartbeats 4000000 in
theorem rsys_4 (w : World) : Calls Tryz.prog 50 #[.int .i64 4] w fun e w' => e = .returned (.tuple #[.agg (sysL.getD 4 Sh.none).cells.toArray, .bool true]) ∧ Kept (fun _ => False) w w' := by
  have hX := heap_alloc2_old w (.cells (sysL.getD 4 Sh.none).cells.toArray 89) (.cells (sysL.getD 4 Sh.none).cells.toArray 89)
  have hK := ((Kept.refl (fun _ => False) w).alloc (.cells (sysL.getD 4 Sh.none).cells.toArray 89)).alloc (.cells (sysL.getD 4 Sh.none).cells.toArray 89)
  have HX := hid_of hX
  have HK := hid_of hK
  clear hX hK
  go_enter Tryz.func50, Tryz.ntmps50
  go_wp2_with fail
  refine (word_is _ 4 (sysL.getD 4 Sh.none).nm _ (by decide +kernel) (by decide) (by kernel_rfl)).mono ?_
  rintro e w1 ⟨rfl, rfl⟩
  rw [show (sysL.getD 4 Sh.none).nm = _ from rfl]
  go_wp2
  refine bodyPost_ret (v := .tuple #[.agg (sysL.getD 4 Sh.none).cells.toArray, .bool true]) ?_ rfl ⟨rfl, HK.out⟩
  exact results_row_tmp (by rfl) _ _ ⟨w.heap.size, 0, none⟩ _ _ (by rfl) (by rfl) (run_loadVar_row _ w.heap.size 89 89 _ (0, 0) _ HX.out Tryz.underlying89 rfl size27)
theorem rsys_all (w : World) : ∀ k : Nat, k < 5 → Calls Tryz.prog 50 #[.int .i64 (k : Int)] w fun e w' => e = .returned (.tuple #[.agg (sysL.getD k Sh.none).cells.toArray, .bool true]) ∧ Kept (fun _ => False) w w'
  | 0, _ => rsys_0 w
  | 1, _ => rsys_1 w
  | 2, _ => rsys_2 w
  | 3, _ => rsys_3 w
  | 4, _ => rsys_4 w
  | k + 5, h => absurd h (by omega)
theorem sysof_ref (n : Int) (w : World) (hn0 : -9223372036854775808 ≤ n) (hn1 : n < 9223372036854775808) :
    Calls Tryz.prog 50 #[.int .i64 n] w fun e w' => e = .returned (.tuple #[.agg (rowS sysL n).cells.toArray, .bool (isRow sysL n)]) ∧ Kept (fun _ => False) w w' := by
  by_cases h : 0 ≤ n ∧ n < 5
  · obtain ⟨k, rfl⟩ : ∃ k : Nat, n = k := ⟨n.toNat, by omega⟩
    have hk : k < 5 := by omega
    rw [(row_at (L := sysL) hk).1, (row_at (L := sysL) hk).2]
    exact rsys_all w k hk
  · rw [show rowS sysL n = Sh.none from if_neg h, show isRow sysL n = false from decide_eq_false h]
    exact rsys_out n w h hn0 hn1
end Go.Proofs.YtgoabnehdmdikaaGreatDoor

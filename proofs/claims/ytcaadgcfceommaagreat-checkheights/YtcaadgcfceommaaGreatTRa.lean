/-
  TRa: Ra.
-/
import Derived.Test.YtcaadgcfceommaaGreatTObx
import Derived.Deep.Strs
import Derived.Laws.IdiomStrings
namespace Go.Proofs.YtcaadgcfceommaaGreat
open Go.RowKit
set_option linter.unusedVariables false
set_option linter.unusedSimpArgs false
set_option maxRecDepth 100000

/-- The n-th of words with a blank behind each, from a place on. -/
def wordF (s : ByteArray) : Nat → Nat → Nat → Nat → ByteArray
  | 0, _, _, _ => ⟨#[]⟩
  | f + 1, n, fr, i => if i < s.size then (if (s.data[i]?.getD 0).toNat ≠ 32 then wordF s f n fr (i + 1) else if n = 0 then s.extract fr i else wordF s f (n - 1) (i + 1) (i + 1)) else ⟨#[]⟩
def wordP (s : ByteArray) (n : Nat) : ByteArray := wordF s (s.size + 1) n 0 0
theorem wordF_succ (s : ByteArray) (f n fr i : Nat) : wordF s (f + 1) n fr i = if i < s.size then (if (s.data[i]?.getD 0).toNat ≠ 32 then wordF s f n fr (i + 1) else if n = 0 then s.extract fr i else wordF s f (n - 1) (i + 1) (i + 1)) else ⟨#[]⟩ := rfl

set_option maxHeartbeats 4000000 in
theorem word_any (s : ByteArray) (n : Nat) (w : World) (hs : s.size ≤ 1000) (hn : n ≤ 1000) :
    Calls Tryz.prog 79 #[.string s, .int .i64 (n : Int)] w fun e w' => e = .returned (.string (wordP s n)) ∧ w' = w := by
  have HP : Hid (wordP s n = wordF s (s.size + 1) n 0 0) := rfl
  generalize wordP s n = r at *
  go_enter Tryz.func79, Tryz.ntmps79
  go_wp2
  go_loopw [1, 5, 6] (fun nv fv iv wr => ∃ (m fr i : Nat), m ≤ 1000 ∧ fr ≤ i ∧ i ≤ s.size ∧ nv = .int .i64 (m : Int) ∧ fv = .int .i64 (fr : Int) ∧ iv = .int .i64 (i : Int) ∧ r = wordF s (s.size + 1 - i) m fr i ∧ wr = w) (fun _ _ iv _ => s.size - (intOf iv).toNat)
  case atStart => exact ⟨n, 0, 0, hn, by omega, by omega, rfl, rfl, rfl, HP.out, rfl⟩
  case round =>
    obtain ⟨m, fr, i, hm, hfi, hi, rfl, rfl, rfl, hr, rfl⟩ := hrel
    clear HP
    by_cases hlt : i < s.size
    · have hiI : (i : Int) < (s.size : Int) := by omega
      rw [show s.size + 1 - i = (s.size - i) + 1 by omega, wordF_succ, if_pos hlt] at hr
      have hd : (s.data[i]?.getD 0).toNat = (s[i]'hlt).toNat := by
        have : i < s.data.size := hlt
        simp [Array.getElem?_eq_getElem this]
        rfl
      rw [hd] at hr
      by_cases hb : (s[i]'hlt).toNat = 32
      · rw [if_neg (by omega)] at hr
        have hbI : (((s[i]'hlt).toNat : Int) != 32) = false := by simp [hb]
        by_cases h0 : m = 0
        · rw [if_pos h0] at hr
          have HR := hid_of hr
          subst h0
          clear hr hd
          go_wp2
          go_ret
          exact ⟨by rw [HR.out]; rfl, rfl⟩
        · rw [if_neg h0] at hr
          have h0I : ((m : Int) == 0) = false := by simp [h0]
          have HR := hid_of hr
          clear hr hd
          go_wp2
          go_roundw
          case rel => exact ⟨m - 1, i + 1, i + 1, by omega, by omega, by omega, by congr 1; go_num, by go_num, by go_num, by rw [show s.size + 1 - (i + 1) = s.size - i by omega]; exact HR.out, trivial⟩
          case measure => simp [intOf]; omega
      · rw [if_pos hb] at hr
        have hbI : (((s[i]'hlt).toNat : Int) != 32) = true := by simp; omega
        have HR := hid_of hr
        clear hr hd
        go_wp2
        go_roundw
        case rel => exact ⟨m, fr, i + 1, hm, by omega, by omega, rfl, rfl, by go_num, by rw [show s.size + 1 - (i + 1) = s.size - i by omega]; exact HR.out, trivial⟩
        case measure => simp [intOf]; omega
    · have hiI : (s.size : Int) ≤ (i : Int) := by omega
      rw [show s.size + 1 - i = (s.size - i) + 1 by omega, wordF_succ, if_neg hlt] at hr
      have HR := hid_of hr
      clear hr
      go_wp2
      go_ret
      exact ⟨by rw [HR.out]; rfl, rfl⟩
theorem word_is (s : ByteArray) (n : Nat) (r : ByteArray) (w : World) (hs : s.size ≤ 1000) (hn : n ≤ 1000) (hr : wordP s n = r) :
    Calls Tryz.prog 79 #[.string s, .int .i64 (n : Int)] w fun e w' => e = .returned (.string r) ∧ w' = w := by
  rw [← hr]
  exact word_any s n w hs hn
end Go.Proofs.YtcaadgcfceommaaGreat

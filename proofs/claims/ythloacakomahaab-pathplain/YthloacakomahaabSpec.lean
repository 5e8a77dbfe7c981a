/-
  The law's special, by contract.
-/
import Derived.Test.YthloacakomahaabLess
namespace Go.Proofs.Ythloacakomahaab
open Go.RowKit
set_option linter.unusedVariables false
set_option linter.unusedSimpArgs false

def anySp (l : List UInt8) : Bool := l.any fun b => b == 42 || b == 63

theorem anySp_cons (c : UInt8) (l : List UInt8) : anySp (c :: l) = ((c == 42 || c == 63) || anySp l) := rfl

set_option maxRecDepth 100000 in
set_option maxHeartbeats 1000000 in
theorem special_any (s : ByteArray) (hs : s.size ≤ 9223372036854775807) (w : World) :
    Calls Try.prog 9 #[.string s] w fun e w' => e = .returned (.bool (anySp s.data.toList)) ∧ w' = w := by
  go_enter Try.func9, Try.ntmps9
  go_wp2
  go_loopw [3] (fun i wr => ∃ k : Nat, k ≤ s.size ∧ i = .int .i64 k ∧ wr = w ∧ anySp s.data.toList = anySp (s.data.toList.drop k)) (fun i _ => s.size - (intOf i).toNat)
  case atStart => exact ⟨0, by omega, rfl, rfl, rfl⟩
  case round =>
    obtain ⟨k, hk, rfl, rfl, hlt⟩ := hrel
    by_cases h1 : k < s.size
    · rw [drop_at s k h1, anySp_cons] at hlt
      have hb0 : (0 : Int) ≤ (k : Int) := by omega
      have hb1 : (k : Int) < s.size := by omega
      by_cases e1 : (s[k].toNat : Int) = 42
      · have HS : Hid (anySp s.data.toList = true) := by
          have e : s[k] = 42 := UInt8.toNat_inj.1 (by show s[k].toNat = 42; omega)
          rw [e] at hlt
          exact hlt
        clear hlt
        have e3 : ((s[k].toNat : Int) == 42) = true := by simpa using e1
        go_wp2
        go_ret
        exact ⟨by rw [HS.out]; simp, rfl⟩
      have e3 : ((s[k].toNat : Int) == 42) = false := by simpa using e1
      by_cases e2 : (s[k].toNat : Int) = 63
      · have HS : Hid (anySp s.data.toList = true) := by
          have e : s[k] = 63 := UInt8.toNat_inj.1 (by show s[k].toNat = 63; omega)
          rw [e] at hlt
          exact hlt
        clear hlt
        have e4 : ((s[k].toNat : Int) == 63) = true := by simpa using e2
        go_wp2
        go_ret
        exact ⟨by rw [HS.out]; simp, rfl⟩
      have e4 : ((s[k].toNat : Int) == 63) = false := by simpa using e2
      have HS : Hid (anySp s.data.toList = anySp (s.data.toList.drop (k + 1))) := by
        have n1 : (s[k] == 42) = false := by
          rw [beq_eq_false_iff_ne]
          intro e
          rw [e] at e1
          exact e1 rfl
        have n2 : (s[k] == 63) = false := by
          rw [beq_eq_false_iff_ne]
          intro e
          rw [e] at e2
          exact e2 rfl
        rw [n1, n2] at hlt
        exact hlt
      clear hlt e1 e2
      go_wp2
      go_roundw
      case rel => exact ⟨k + 1, by omega, by go_num, by trivial, HS.out⟩
      case measure => simp [intOf]; omega
    · have HS : Hid (anySp s.data.toList = false) := by
        rw [List.drop_eq_nil_of_le (by simp; omega)] at hlt
        exact hlt
      clear hlt
      go_wp2
      go_ret
      exact ⟨by rw [HS.out]; simp, rfl⟩
end Go.Proofs.Ythloacakomahaab

/-
  The reference's IsName by contract.
-/
import Derived.Test.YtmkfjdfpcjkmnaaParts
namespace Go.Proofs.Ytmkfjdfpcjkmnaa
open Go.RowKit
set_option linter.unusedVariables false
set_option linter.unusedSimpArgs false

/-- A byte that may stand in a name. -/
def okByte (c : UInt8) : Bool := c != 0 && c != 47
/-- A name. -/
def isName (l : List UInt8) : Bool := decide (1 ≤ l.length) && decide (l.length ≤ 64) && l != [46] && l != [46, 46] && l.all okByte

theorem u8_eq (c : UInt8) (n : Nat) (hn : n < 256) : ((c.toNat : Int) == (n : Int)) = (c == UInt8.ofNat n) := by
  rw [Bool.eq_iff_iff, beq_iff_eq, beq_iff_eq, ← UInt8.toNat_inj, UInt8.toNat_ofNat']
  omega

set_option maxRecDepth 100000 in
set_option maxHeartbeats 1000000 in
theorem rname_any (s : ByteArray) (hs : s.size < 2 ^ 62) (w : World) :
    Calls Try.prog 62 #[.string s] w fun e w' => e = .returned (.bool (isName s.data.toList)) ∧ w' = w := by
  have hl : s.data.toList.length = s.size := by simp
  have hn : isName s.data.toList = (decide (1 ≤ s.size) && decide (s.size ≤ 64) && s.toList != [46] && s.toList != [46, 46] && s.data.toList.all okByte) := by
    rw [isName, hl, ByteArray.toList_eq]
  have HN := hid_of hn
  clear hn hl
  by_cases h1 : s.size < 1
  · have HE : Hid (isName s.data.toList = false) := by
      rw [HN.out, decide_eq_false (by omega : ¬ 1 ≤ s.size)]
      rfl
    go_enter Try.func62, Try.ntmps62
    go_wp2
    go_ret
    exact ⟨by rw [HE.out]; rfl, rfl⟩
  by_cases h2 : 64 < s.size
  · have HE : Hid (isName s.data.toList = false) := by
      show _ = _
      rw [HN.out, decide_eq_false (by omega : ¬ s.size ≤ 64)]
      simp
    go_enter Try.func62, Try.ntmps62
    go_wp2
    go_ret
    exact ⟨by rw [HE.out]; rfl, rfl⟩
  by_cases h3 : s.toList = [46]
  · have HE : Hid (isName s.data.toList = false) := by
      show _ = _
      rw [HN.out, h3]
      simp
    go_enter Try.func62, Try.ntmps62
    go_wp2
    go_ret
    exact ⟨by rw [HE.out]; rfl, rfl⟩
  by_cases h4 : s.toList = [46, 46]
  · have HE : Hid (isName s.data.toList = false) := by
      show _ = _
      rw [HN.out, h4]
      simp
    go_enter Try.func62, Try.ntmps62
    go_wp2
    go_ret
    exact ⟨by rw [HE.out]; rfl, rfl⟩
  have HE : Hid (isName s.data.toList = s.data.toList.all okByte) := by
    show _ = _
    rw [HN.out, decide_eq_true (by omega : 1 ≤ s.size), decide_eq_true (by omega : s.size ≤ 64)]
    simp [h3, h4]
  clear HN
  have h5 : (s.toList == [46]) = false := by simpa using h3
  have h6 : (s.toList == [46, 46]) = false := by simpa using h4
  go_enter Try.func62, Try.ntmps62
  go_wp2
  go_loopw [3] (fun i wr => ∃ k : Nat, k ≤ s.size ∧ i = .int .i64 k ∧ wr = w ∧ s.data.toList.all okByte = (s.data.toList.drop k).all okByte) (fun i _ => s.size - (intOf i).toNat)
  case atStart => exact ⟨0, by omega, rfl, rfl, rfl⟩
  case round =>
    obtain ⟨k, hk, rfl, rfl, hall⟩ := hrel
    by_cases hlt : k < s.size
    · rw [drop_at s k hlt, List.all_cons] at hall
      have hb0 : (0 : Int) ≤ (k : Int) := by omega
      have hb1 : (k : Int) < s.size := by omega
      have hok : okByte s[k] = (!((s[k].toNat : Int) == 0) && !((s[k].toNat : Int) == 47)) := by
        rw [okByte, show ((0 : Int)) = ((0 : Nat) : Int) from rfl, show ((47 : Int)) = ((47 : Nat) : Int) from rfl, u8_eq _ 0 (by omega), u8_eq _ 47 (by omega)]
        rfl
      rw [hok] at hall
      have HA := hid_of hall
      clear hall hok
      by_cases c1 : (s[k].toNat : Int) = 0
      · have HF : Hid (isName s.data.toList = false) := by rw [HE.out, HA.out, c1]; rfl
        go_wp2
        go_ret
        exact ⟨by rw [HF.out]; rfl, rfl⟩
      · by_cases c2 : (s[k].toNat : Int) = 47
        · have HF : Hid (isName s.data.toList = false) := by rw [HE.out, HA.out, c2]; rfl
          go_wp2
          go_ret
          exact ⟨by rw [HF.out]; rfl, rfl⟩
        · have HF : Hid (s.data.toList.all okByte = (s.data.toList.drop (k + 1)).all okByte) := by
            show _ = _
            rw [HA.out, beq_eq_false_iff_ne.2 c1, beq_eq_false_iff_ne.2 c2]
            rfl
          clear HA
          have d1 : ((s[k].toNat : Int) == 0) = false := beq_eq_false_iff_ne.2 c1
          have d2 : ((s[k].toNat : Int) == 47) = false := beq_eq_false_iff_ne.2 c2
          go_wp2
          go_roundw
          case rel => exact ⟨k + 1, by omega, by go_num, by first | rfl | trivial, HF.out⟩
          case measure => simp [intOf]; omega
    · have HF : Hid (isName s.data.toList = true) := by
        rw [HE.out, hall, List.drop_eq_nil_of_le (by simp; omega)]
        rfl
      clear hall
      go_wp2
      go_ret
      exact ⟨by rw [HF.out]; rfl, rfl⟩
end Go.Proofs.Ytmkfjdfpcjkmnaa

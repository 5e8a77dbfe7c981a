/-
  Parse by contract.
-/
import Derived.Test.YtdbogfjkaebeoaaDoorText
import Derived.Test.YtdbogfjkaebeoaaDoorCutA
import Derived.Lib.Bytealg
import Derived.Laws.BitsAllLaws
namespace Go.Proofs.YtdbogfjkaebeoaaDoor
open Go.RowKit
set_option linter.unusedVariables false
set_option linter.unusedSimpArgs false

/-- A letter's half of a byte, or -1. -/
def half (c : Int) : Int := Lib.indexByte digs.data.toList c.toNat.toUInt8
theorem half_lt (c : Int) : half c < 16 := by
  have h : ∀ (l : List UInt8) (c : UInt8), Lib.indexByte l c < l.length ∨ Lib.indexByte l c = -1 := by
    intro l c
    induction l with
    | nil => exact .inr rfl
    | cons b l ih =>
      unfold Lib.indexByte
      split
      · exact .inl (by simp)
      · split
        · exact .inr rfl
        · rename_i hne
          rcases ih with ih | ih
          · left
            simp
            omega
          · rw [ih] at hne
            exact absurd rfl hne
  have := h digs.data.toList c.toNat.toUInt8
  have hl : digs.data.toList.length = 16 := rfl
  unfold half
  omega

set_option maxRecDepth 100000 in
set_option maxHeartbeats 1000000 in
theorem index_in (c : Int) (w : World) : Calls Tryd.prog 47 #[.string digs, .int .u8 c] w fun e w' => e = .returned (.int .i64 (half c)) ∧ w' = w := by
  have HRUN := hid_of (Lib.run_indexByteString (P := Tryd.prog) digs c w)
  go_enter Tryd.func47, Tryd.ntmps47
  go_wp2
  rw [run_callFunc_extern Tryd.func50 (by kernel_rfl) (by kernel_rfl) (by kernel_rfl) (e := Extern.BytealgIndexByte.indexByte) (by kernel_rfl), HRUN.out]
  simp only [Result.andThen]
  rw [Oper.upon_value]
  go_wp2
  go_ret
  exact ⟨rfl, rfl⟩

set_option maxRecDepth 100000 in
set_option maxHeartbeats 1000000 in
theorem index_any (c : Int) (w : World) : Calls Tryd.prog 40 #[.string digs, .int .u8 c] w fun e w' => e = .returned (.int .i64 (half c)) ∧ w' = w := by
  have HI := hid_of (index_in c)
  go_enter Tryd.func40, Tryd.ntmps40
  go_wp2_with fail
  refine (HI.out _).mono ?_
  rintro e w1 ⟨rfl, rfl⟩
  go_wp2_with fail
  go_ret
  exact ⟨rfl, rfl⟩

/-- A text's letter. -/
def letter (s : ByteArray) (k : Nat) : Int := ((s[k]!).toNat : Int)
/-- A letter's half. -/
def hv (s : ByteArray) (k : Nat) : Int := half (letter s k)
/-- The digest's byte j behind i letters. -/
def dAt (s : ByteArray) (i j : Nat) : Int := if 2 * j + 1 < i then 16 * hv s (2 * j) + hv s (2 * j + 1) else if 2 * j < i then hv s (2 * j) else 0
theorem run_letter (w : World) (s : ByteArray) (k : Nat) (hk : k < s.size) : (Instr.index 9 (.string s) (.int .i64 (k : Int))).run Tryd.prog w = .ok (.int .u8 (letter s k)) w := by
  rw [run_index_string (P := Tryd.prog) w 9 s .i64 (k : Int) Tryd.underlying9, dif_pos ⟨by omega, by omega⟩]
  simp only [Int.toNat_natCast]
  have e : (s[k]'hk) = s[k]! := by simp [hk]
  rw [e, letter]

theorem dAt_step (s : ByteArray) (k : Nat) : dAt s (k + 1) (k / 2) = 16 * dAt s k (k / 2) + hv s k := by
  rcases Nat.mod_two_eq_zero_or_one k with h | h
  · have e : 2 * (k / 2) = k := by omega
    unfold dAt
    rw [e, if_neg (by omega), if_pos (by omega), if_neg (by omega), if_neg (by omega)]
    omega
  · have e : 2 * (k / 2) + 1 = k := by omega
    unfold dAt
    rw [e, if_pos (by omega), if_neg (by omega), if_pos (by omega)]
theorem dAt_other (s : ByteArray) (k j : Nat) (h : j ≠ k / 2) : dAt s (k + 1) j = dAt s k j := by
  unfold dAt
  by_cases h1 : 2 * j + 1 < k
  · rw [if_pos (by omega), if_pos h1]
  · rw [if_neg (by omega), if_neg h1]
    by_cases h2 : 2 * j < k
    · rw [if_pos (by omega), if_pos h2]
    · rw [if_neg (by omega), if_neg h2]
theorem or16_nat : ∀ a, a < 16 → ∀ b, b < 16 → a * 16 ||| b = 16 * a + b := by decide
theorem or16 (x h : Int) (hx0 : 0 ≤ x) (hx1 : x < 16) (h0 : 0 ≤ h) (h1 : h < 16) : bits .or .u8 (x * 16) h = 16 * x + h := by
  obtain ⟨a, rfl⟩ := Int.eq_ofNat_of_zero_le hx0
  obtain ⟨b, rfl⟩ := Int.eq_ofNat_of_zero_le h0
  have := u8_or_nat (a * 16) b (by omega) (by omega)
  rw [or16_nat a (by omega) b (by omega)] at this
  simpa using this

def parsed (s : ByteArray) : List Int := (List.range 32).map (dAt s 64)
theorem parsed_length (s : ByteArray) : (parsed s).length = 32 := by simp [parsed]
theorem parsed_at (s : ByteArray) (j : Nat) (h : j < 32) : (parsed s).getD j 0 = dAt s 64 j := by simp [parsed, List.getD, h]
end Go.Proofs.YtdbogfjkaebeoaaDoor

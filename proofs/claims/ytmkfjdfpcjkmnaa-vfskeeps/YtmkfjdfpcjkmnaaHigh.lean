/-
  What a rune beyond ASCII is made of: bytes beyond ASCII.
-/
import Derived.Test.YtmkfjdfpcjkmnaaName
import Derived.Laws.RangeAny
import Derived.Lib.MapLaws
import Derived.Lib.OthersKept
namespace Go.Proofs.Ytmkfjdfpcjkmnaa
open Go.RowKit
set_option linter.unusedVariables false
set_option linter.unusedSimpArgs false

theorem high_run (s : ByteArray) (pos : Nat) (h : pos < s.size) (ha : 128 ≤ (s[pos]'h).toNat) (j : Nat) (hj : j < (Utf8.decode s pos).2) : 128 ≤ (s.get! (pos + j)).toNat := by
  have h0 : 128 ≤ (s.get! (pos + 0)).toNat := by rw [get_at s pos h]; exact ha
  have hn : ¬ (s.get! (pos + 0)).toNat < 128 := by omega
  by_cases hj0 : j = 0
  · rw [hj0]; exact h0
  simp only [Utf8.decode, hn, if_false] at hj
  split at hj
  · rename_i hc
    simp only [Bool.and_eq_true, beq_iff_eq, decide_eq_true_eq] at hc
    split at hj
    · have : j = 1 := by omega
      rw [this]; omega
    · omega
  · split at hj
    · rename_i hc
      simp only [Bool.and_eq_true, beq_iff_eq, decide_eq_true_eq] at hc
      split at hj
      · have : j = 1 ∨ j = 2 := by omega
        rcases this with rfl | rfl <;> omega
      · omega
    · split at hj
      · rename_i hc
        simp only [Bool.and_eq_true, beq_iff_eq, decide_eq_true_eq] at hc
        split at hj
        · have : j = 1 ∨ j = 2 ∨ j = 3 := by omega
          rcases this with rfl | rfl | rfl <;> omega
        · omega
      · omega

theorem get_bang (s : ByteArray) (k : Nat) (h : k < s.size) : s.get! k = s.data.toList.getD k 0 := by
  have := get_at s k h
  rw [Nat.add_zero] at this
  rw [this, List.getD]
  have e : s.data.toList[k]? = some s[k] := by
    rw [List.getElem?_eq_getElem (by simpa using h)]
    rfl
  rw [e]
  rfl

/-- The bytes of a rune beyond ASCII may stand in a name. -/
theorem high_ok (s : ByteArray) (pos : Nat) (h : pos < s.size) (ha : 128 ≤ (s[pos]'h).toNat) (hle : pos + (Utf8.decode s pos).2 ≤ s.size) :
    (s.data.toList.take (pos + (Utf8.decode s pos).2)).all okByte = (s.data.toList.take pos).all okByte := by
  have key : ∀ n, n ≤ (Utf8.decode s pos).2 → (s.data.toList.take (pos + n)).all okByte = (s.data.toList.take pos).all okByte := by
    intro n
    induction n with
    | zero => intro _; rfl
    | succ n ih =>
      intro hn
      have hlt : pos + n < s.size := by omega
      have hb := high_run s pos h ha n (by omega)
      rw [get_bang s _ hlt] at hb
      have e : s.data.toList[pos + n]? = some (s.data.toList.getD (pos + n) 0) := by
        rw [List.getD, List.getElem?_eq_getElem (by simpa using hlt)]
        rfl
      rw [← Nat.add_assoc, List.take_add_one, e, List.all_append, ih (by omega)]
      generalize s.data.toList.getD (pos + n) 0 = b at hb
      have : okByte b = true := by
        simp only [okByte, Bool.and_eq_true, bne_iff_ne, ne_eq]
        constructor
        · intro e; rw [e] at hb; simp at hb
        · intro e; rw [e] at hb; simp at hb
      simp [this]
  exact key _ (Nat.le_refl _)
end Go.Proofs.Ytmkfjdfpcjkmnaa

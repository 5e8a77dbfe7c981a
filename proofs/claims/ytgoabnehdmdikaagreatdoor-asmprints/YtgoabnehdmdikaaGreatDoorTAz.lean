/-
  TAz: Az.
-/
import Derived.Test.YtgoabnehdmdikaaGreatDoorTAe
import Derived.Test.YtgoabnehdmdikaaGreatDoorTAk
namespace Go.Proofs.YtgoabnehdmdikaaGreatDoor
open Go.RowKit
set_option linter.unusedVariables false
set_option linter.unusedSimpArgs false
set_option maxRecDepth 100000

theorem cut_of (s : ByteArray) (qs : List Pc) (hs : s.size ≤ 65536) (hasc : ∀ (j : Nat) (hj : j < s.size), (s[j]'hj).toNat < 128 ∧ (s[j]'hj).toNat ≠ 59) (x : List Pc × Int × List Int) (hf : foldD (ib s) ([], 0, []) = some x) (he : endD x = some qs) (hq : qs ≠ []) : CutR s qs := by
  intro w hG
  refine (cut_part s qs hs hasc x hf he w hG).mono ?_
  rintro e w' ⟨pv, rfl, ho, hk⟩
  rcases ho.2 with ⟨_, h0⟩ | ⟨g, cap, cur, rfl, _⟩
  · exact absurd (List.length_eq_zero_iff.1 h0) hq
  · exact ⟨g, cap, rfl, ho, hk⟩
theorem small15 : ∀ (j : Nat) (hj : j < ln1B.size), (ln1B[j]'hj).toNat < 128 ∧ (ln1B[j]'hj).toNat ≠ 59 := by decide
theorem small3 : ∀ (j : Nat) (hj : j < ln2B.size), (ln2B[j]'hj).toNat < 128 ∧ (ln2B[j]'hj).toNat ≠ 59 := by decide
theorem cut_one : CutR ln1B qs1 := cut_of ln1B qs1 (by decide) small15 _ (by rfl) (by rfl) (by simp)
theorem cut_two : CutR ln2B qs2 := cut_of ln2B qs2 (by decide) small3 _ (by rfl) (by rfl) (by simp)
end Go.Proofs.YtgoabnehdmdikaaGreatDoor

/-
  strings.CutPrefix and path.Under by contract.
-/
import Derived.Test.YtmkfjdfpcjkmnaaLess
namespace Go.Proofs.Ytmkfjdfpcjkmnaa
open Go.RowKit
set_option linter.unusedVariables false
set_option linter.unusedSimpArgs false

theorem extract_list (s : ByteArray) (i j : Nat) : (s.extract i j).data.toList = (s.data.toList.take j).drop i := by
  rw [ByteArray.data_extract, Array.toList_extract, List.extract_eq_take_drop, List.drop_take]

/-- Whether p stands at the front of s. -/
def front (s p : ByteArray) : Bool := decide (p.size ≤ s.size) && ((s.extract 0 p.size).toList == p.toList)

theorem front_iff (s p : ByteArray) : front s p = true ↔ p.data.toList <+: s.data.toList := by
  rw [front, Bool.and_eq_true, decide_eq_true_eq, beq_iff_eq, ByteArray.toList_eq, ByteArray.toList_eq, extract_list, List.drop_zero, List.prefix_iff_eq_take]
  constructor
  · rintro ⟨_, h⟩
    simpa using h.symm
  · intro h
    have h2 : p.data.toList = s.data.toList.take p.size := by simpa using h
    refine ⟨?_, h2.symm⟩
    have h3 := congrArg List.length h2
    simp at h3
    omega

/-- What CutPrefix tells. -/
def cutOff (s p : ByteArray) : ByteArray := if front s p then s.extract p.size s.size else s

/-- Whether b is a, or lies below it. -/
def underB (a b : ByteArray) : Bool := front b a && (a.toList == [] || (cutOff b a).toList == [] || (cutOff b a).toList.head? == some 47)

end Go.Proofs.Ytmkfjdfpcjkmnaa

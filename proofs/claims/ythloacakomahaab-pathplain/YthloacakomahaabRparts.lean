/-
  The reference's Parts by contract.
-/
import Derived.Test.YthloacakomahaabRow
namespace Go.Proofs.Ythloacakomahaab
open Go.RowKit
set_option linter.unusedVariables false
set_option linter.unusedSimpArgs false

theorem take_more (l : List UInt8) (fr k : Nat) (c : UInt8) (m : List UInt8) (hf : fr ≤ k) (h : l.drop k = c :: m) : l.drop fr = (l.drop fr).take (k - fr) ++ c :: m ∧ (l.drop fr).take (k + 1 - fr) = (l.drop fr).take (k - fr) ++ [c] := by
  have e : (l.drop fr).drop (k - fr) = c :: m := by rw [List.drop_drop, show fr + (k - fr) = k by omega, h]
  constructor
  · rw [← e, List.take_append_drop]
  · rw [show k + 1 - fr = (k - fr) + 1 by omega, List.take_add_one]
    congr 1
    rw [← List.head?_drop, e]
    rfl

end Go.Proofs.Ythloacakomahaab

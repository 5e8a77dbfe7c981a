/-
  Rfa: Rfr, Rfn, Rfl, Rfm, Rfo, Rfp.
-/
import Derived.Test.YtnjhnlohjhdcpabMc
import Derived.Deep.QuietTactic
import Derived.BigQuiet
namespace Go.Proofs.Ytnjhnlohjhdcpab
open Go.RowKit Go.Deep
set_option linter.unusedVariables false

section
variable {w w' : World} {r p : Nat} {v : Value} {flt : Int}

end

end Go.Proofs.Ytnjhnlohjhdcpab

namespace Go.Proofs.Ytnjhnlohjhdcpab
open Go.RowKit Go.Deep
set_option linter.unusedVariables false

end Go.Proofs.Ytnjhnlohjhdcpab

namespace Go.Proofs.Ytnjhnlohjhdcpab
open Go.RowKit Go.Deep
set_option linter.unusedVariables false

end Go.Proofs.Ytnjhnlohjhdcpab

namespace Go.Proofs.Ytnjhnlohjhdcpab
open Go.RowKit Go.Deep
set_option linter.unusedVariables false

theorem drop_split {xs a rest : List Int} {p : Nat} (h : xs.drop p = a ++ rest) : rest = xs.drop (p + a.length) ∧ (∀ i, i < a.length → xs.getD (p + i) 0 = a.getD i 0) := by
  refine ⟨?_, fun i hi => ?_⟩
  · rw [← List.drop_drop, h, List.drop_left]
  · have : (xs.drop p)[i]? = a[i]? := by rw [h, List.getElem?_append_left hi]
    rw [List.getElem?_drop] at this
    rw [List.getD, List.getD, this]

end Go.Proofs.Ytnjhnlohjhdcpab

namespace Go.Proofs.Ytnjhnlohjhdcpab
open Go.RowKit Go.Deep
set_option linter.unusedVariables false

end Go.Proofs.Ytnjhnlohjhdcpab

namespace Go.Proofs.Ytnjhnlohjhdcpab
open Go.RowKit Go.Deep
set_option linter.unusedVariables false

end Go.Proofs.Ytnjhnlohjhdcpab

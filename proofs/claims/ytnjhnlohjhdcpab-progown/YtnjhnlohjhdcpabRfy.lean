/-
  The reference's Reader: take, as a whole.
-/
import Derived.Test.YtnjhnlohjhdcpabRfm
namespace Go.Proofs.Ytnjhnlohjhdcpab
open Go.RowKit Go.Deep
set_option linter.unusedVariables false

/-- A slice of so many bytes as the entry hands it in. -/
def Capd (v : Value) (L : Nat) : Prop := v = .slice none 0 0 ∨ ∃ a c, v = .slice (some a) L c ∧ L ≤ c

end Go.Proofs.Ytnjhnlohjhdcpab

/-
  The reference's Reader: take, where there is too little.
-/
import Derived.Test.YtnjhnlohjhdcpabRfa
namespace Go.Proofs.Ytnjhnlohjhdcpab
open Go.RowKit Go.Deep
set_option linter.unusedVariables false

end Go.Proofs.Ytnjhnlohjhdcpab

/-
  The reference's Check of a program by contract.
-/
import Derived.Test.YtnjhnlohjhdcpabQp
import Derived.Test.YtnjhnlohjhdcpabRg
namespace Go.Proofs.Ytnjhnlohjhdcpab
open Go.ChangeShapes Go.WideShapes Go.ChangeAt Go.RowKit Go.Deep
set_option linter.unusedVariables false
set_option linter.unusedSimpArgs false
set_option maxRecDepth 100000

end Go.Proofs.Ytnjhnlohjhdcpab

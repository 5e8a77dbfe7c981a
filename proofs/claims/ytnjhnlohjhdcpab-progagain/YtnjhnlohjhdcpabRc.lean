/-
  The reference's table.
-/
import Derived.Test.YtnjhnlohjhdcpabRb
namespace Go.Proofs.Ytnjhnlohjhdcpab
open Go.RowKit
set_option linter.unusedVariables false
set_option linter.unusedSimpArgs false
set_option maxRecDepth 100000
end Go.Proofs.Ytnjhnlohjhdcpab

/-
  The reference's Reader: take, where there is enough.
-/
import Derived.Test.YtnjhnlohjhdcpabRft
import Derived.Deep.RegionLaw
namespace Go.Proofs.Ytnjhnlohjhdcpab
open Go.RowKit Go.Deep
set_option linter.unusedVariables false

end Go.Proofs.Ytnjhnlohjhdcpab

/-
  Rfm: Rft, Rfu, Rfv, Rfx, Rfxb.
-/
import Derived.Test.YtnjhnlohjhdcpabRfa
import Derived.Deep.RegionLaw
namespace Go.Proofs.Ytnjhnlohjhdcpab
open Go.RowKit Go.Deep
set_option linter.unusedVariables false

end Go.Proofs.Ytnjhnlohjhdcpab

namespace Go.Proofs.Ytnjhnlohjhdcpab
open Go.RowKit Go.Deep
set_option linter.unusedVariables false

end Go.Proofs.Ytnjhnlohjhdcpab

namespace Go.Proofs.Ytnjhnlohjhdcpab
open Go.RowKit Go.Deep
set_option linter.unusedVariables false

end Go.Proofs.Ytnjhnlohjhdcpab

namespace Go.Proofs.Ytnjhnlohjhdcpab
open Go.RowKit Go.Deep
set_option linter.unusedVariables false

end Go.Proofs.Ytnjhnlohjhdcpab

namespace Go.Proofs.Ytnjhnlohjhdcpab
open Go.RowKit Go.Deep
set_option linter.unusedVariables false

end Go.Proofs.Ytnjhnlohjhdcpab

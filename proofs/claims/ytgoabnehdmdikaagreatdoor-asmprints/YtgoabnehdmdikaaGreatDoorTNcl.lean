/-
  TNcl: Ncl.
-/
import Derived.Test.YtgoabnehdmdikaaGreatDoorTMc
namespace Go.Proofs.YtgoabnehdmdikaaGreatDoor
open Go.RowKit
set_option linter.unusedVariables false

end Go.Proofs.YtgoabnehdmdikaaGreatDoor

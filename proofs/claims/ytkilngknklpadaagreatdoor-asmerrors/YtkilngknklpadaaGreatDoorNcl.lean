/-
  mint.Read with a function literal of one captured variable.
-/
import Derived.Test.YtkilngknklpadaaGreatDoorMc
namespace Go.Proofs.YtkilngknklpadaaGreatDoor
open Go.RowKit
set_option linter.unusedVariables false

end Go.Proofs.YtkilngknklpadaaGreatDoor

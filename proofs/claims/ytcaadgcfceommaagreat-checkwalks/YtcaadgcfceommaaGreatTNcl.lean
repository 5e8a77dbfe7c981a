/-
  TNcl: Ncl.
-/
import Derived.Test.YtcaadgcfceommaaGreatTMc
namespace Go.Proofs.YtcaadgcfceommaaGreat
open Go.RowKit
set_option linter.unusedVariables false

end Go.Proofs.YtcaadgcfceommaaGreat

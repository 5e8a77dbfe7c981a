/-
  TQc: Qc.
-/
import Derived.Test.YtcaadgcfceommaaGreatTQp
import Derived.Test.YtcaadgcfceommaaGreatTRg
namespace Go.Proofs.YtcaadgcfceommaaGreat
open Go.ChangeShapes Go.WideShapes Go.ChangeAt Go.RowKit Go.Deep
set_option linter.unusedVariables false
set_option linter.unusedSimpArgs false
set_option maxRecDepth 100000

end Go.Proofs.YtcaadgcfceommaaGreat

/-
  THc: Hc.
-/
import Derived.Test.YtcaadgcfceommaaGreatTHb
import Derived.Test.YtcaadgcfceommaaGreatTQc
namespace Go.Proofs.YtcaadgcfceommaaGreat
open Go.RowKit
set_option linter.unusedVariables false
set_option linter.unusedSimpArgs false
set_option maxRecDepth 100000

end Go.Proofs.YtcaadgcfceommaaGreat

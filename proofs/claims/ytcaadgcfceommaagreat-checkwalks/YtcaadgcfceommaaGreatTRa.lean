/-
  TRa: Ra.
-/
import Derived.Test.YtcaadgcfceommaaGreatTObx
import Derived.Deep.Strs
import Derived.Laws.IdiomStrings
namespace Go.Proofs.YtcaadgcfceommaaGreat
open Go.RowKit
set_option linter.unusedVariables false
set_option linter.unusedSimpArgs false
set_option maxRecDepth 100000

end Go.Proofs.YtcaadgcfceommaaGreat

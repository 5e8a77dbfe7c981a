/-
  TPa: Pa.
-/
import Derived.Test.YtcaadgcfceommaaGreatTOe
import Derived.Test.YtcaadgcfceommaaGreatTNcl
namespace Go.Proofs.YtcaadgcfceommaaGreat
open Go.RowKit Go.Deep
set_option linter.unusedVariables false
set_option linter.unusedSimpArgs false
set_option maxRecDepth 100000

theorem size52 : (Tryz.prog.info? 64).map (·.size) = some 2 := by kernel_rfl

end Go.Proofs.YtcaadgcfceommaaGreat

/-
  Rfc: Rfw, Rfz.
-/
import Derived.Test.YtnjhnlohjhdcpabRfa
import Derived.Deep.DeepCutAuto
import Derived.Deep.CutBlock
import Derived.Test.YtnjhnlohjhdcpabRfy
namespace Go.Proofs.Ytnjhnlohjhdcpab
open Go.RowKit Go.Deep
set_option linter.unusedVariables false

/-- What a Read leaves when its answer is laid. -/
def laid60 (w w3 : World) (k n' : Int) (bv : Value) : World := ((w3.setCell ⟨w.heap.size, 0, none⟩ (.int .i64 k)).setCell ⟨w.heap.size, 1, none⟩ (.int .i64 n')).setCell ⟨w.heap.size, 2, none⟩ bv

end Go.Proofs.Ytnjhnlohjhdcpab

namespace Go.Proofs.Ytnjhnlohjhdcpab
open Go.RowKit Go.Deep
set_option linter.unusedVariables false

end Go.Proofs.Ytnjhnlohjhdcpab

/-
  The reference's IsName by contract.
-/
import Derived.Test.YthloacakomahaabParts
namespace Go.Proofs.Ythloacakomahaab
open Go.RowKit
set_option linter.unusedVariables false
set_option linter.unusedSimpArgs false

/-- A byte that may stand in a name. -/
def okByte (c : UInt8) : Bool := c != 0 && c != 47
/-- A name. -/
def isName (l : List UInt8) : Bool := decide (1 ≤ l.length) && decide (l.length ≤ 64) && l != [46] && l != [46, 46] && l.all okByte

theorem u8_eq (c : UInt8) (n : Nat) (hn : n < 256) : ((c.toNat : Int) == (n : Int)) = (c == UInt8.ofNat n) := by
  rw [Bool.eq_iff_iff, beq_iff_eq, beq_iff_eq, ← UInt8.toNat_inj, UInt8.toNat_ofNat']
  omega

end Go.Proofs.Ythloacakomahaab

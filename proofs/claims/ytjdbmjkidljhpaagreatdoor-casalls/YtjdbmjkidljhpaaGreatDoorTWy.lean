/-
 A World and its twin.
-/
import Derived.Test.YtjdbmjkidljhpaaGreatDoorTWx
import Derived.Test.YtjdbmjkidljhpaaGreatDoorTWq
namespace Go.Proofs.YtjdbmjkidljhpaaGreatDoor
open Go.RowKit
set_option linter.unusedVariables false
set_option linter.unusedSimpArgs false
set_option maxRecDepth 100000
/-- No blob's block is one of the World's own. -/
theorem Wd.bo {w : World} {lo k n g s : Nat} {mv : Value} {σ : Sg} {r : Nat} {lv : Value} {ρ : Rg} {iv : Value} {m : Nat} (h : Wd w lo k n g s mv σ r lv ρ iv m) : ∀ q, Blo σ ρ q → ¬ OwnW g s mv r lv iv q := fun q hb ho => by
 rcases ho with e | ho | ho
 ·exact h.bg q hb e
 ·exact h.two.boff q hb ho
 ·exact h.api q hb ho
end Go.Proofs.YtjdbmjkidljhpaaGreatDoor

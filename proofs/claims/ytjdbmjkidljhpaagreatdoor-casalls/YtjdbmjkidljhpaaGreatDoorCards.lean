/-
  DERIVED. GIVEN WITH THE SEED: THE CARDS: each row of YtjdbmjkidljhpaaGreatDoorRows.lean that lists a variable, with what it lists TIED to the program's text (the seventh form; the later family's looks); each row that meets fmt, with fmt's text TOLD by the authors' own Lean function (tested against real Go, not proved from fmt's source: count such statements apart). THE CARD IS WHAT COUNTS. Prove the row's statement (the work); the ties are given (YtjdbmjkidljhpaaGreatDoorTie.lean); close each card by the builder's one call (the guide's Derived/Test/ToyasCard.lean, 'card_holds'). Laid BY PROGRAM, IN A SANDBOX (cutbox-door.mjs). By AI agents, Wed Nov 11 2026. No macro, syntax, notation, axiom, sorry.
-/
import Derived.Test.YtjdbmjkidljhpaaGreatDoorRows
import GoSem.ClaimSeven
namespace Go.Proofs.YtjdbmjkidljhpaaGreatDoor
namespace Rows

/-- THE TIED CARD OF 'retortlaw4.CasPlays'. -/
def casPlaysCard : Claim7 := { stood := { row := casPlaysRow, standIns := [], harness := (true, "7de6e13114532f1ad2bfb4979de20adabf13f457872a166da3f8e51eb094a4a1"), looks := true }, kinds := [], alts := [], laidByText := true, laidKinds := [.data], laidTests := true, laidLooks := .later }
def CasPlaysCardSaid : Prop := Claim7.holds Tryz.pinned (.plain (OpenSpec.ofChange casPlaysSpec)) casPlaysCard

/-- THE TIED CARD OF 'retortlaw4.CasAlls'. -/
def casAllsCard : Claim7 := { stood := { row := casAllsRow, standIns := [], harness := (true, "7de6e13114532f1ad2bfb4979de20adabf13f457872a166da3f8e51eb094a4a1"), looks := true }, kinds := [], alts := [], laidByText := true, laidKinds := [.data], laidTests := true, laidLooks := .later }
def CasAllsCardSaid : Prop := Claim7.holds Tryz.pinned (.plain (OpenSpec.ofChange casAllsSpec)) casAllsCard

/-- THE SECOND FORM's CARD OF 'retortlaw4.CasPlays'. -/
def casPlaysUptoCard : Claim7 := { stood := { row := casPlaysUptoRow, standIns := [], harness := (true, "7de6e13114532f1ad2bfb4979de20adabf13f457872a166da3f8e51eb094a4a1"), looks := true }, kinds := [], alts := [], laidByText := true, laidKinds := [.data], laidTests := true, laidLooks := .later }
def CasPlaysUptoCardSaid : Prop := Claim7.holds Tryz.pinned (.plain (OpenSpec.upto casPlaysSpec)) casPlaysUptoCard

/-- THE SECOND FORM's CARD OF 'retortlaw4.CasAlls'. -/
def casAllsUptoCard : Claim7 := { stood := { row := casAllsUptoRow, standIns := [], harness := (true, "7de6e13114532f1ad2bfb4979de20adabf13f457872a166da3f8e51eb094a4a1"), looks := true }, kinds := [], alts := [], laidByText := true, laidKinds := [.data], laidTests := true, laidLooks := .later }
def CasAllsUptoCardSaid : Prop := Claim7.holds Tryz.pinned (.plain (OpenSpec.upto casAllsSpec)) casAllsUptoCard
end Rows
end Go.Proofs.YtjdbmjkidljhpaaGreatDoor

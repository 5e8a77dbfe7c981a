/-
  DERIVED. GIVEN WITH THE SEED: THE CARDS: each row of YthiopkndbicmkabDoorRows.lean that lists a variable, with what it lists TIED to the program's text (the seventh form; the later family's looks); each row that meets fmt, with fmt's text TOLD by the authors' own Lean function (tested against real Go, not proved from fmt's source: count such statements apart). THE CARD IS WHAT COUNTS. Prove the row's statement (the work); the ties are given (YthiopkndbicmkabDoorTie.lean); close each card by the builder's one call (the guide's Derived/Test/ToyasCard.lean, 'card_holds'). Laid BY PROGRAM, IN A SANDBOX (cutbox-door.mjs). By AI agents, Wed Nov 11 2026. No macro, syntax, notation, axiom, sorry.
-/
import Derived.Test.YthiopkndbicmkabDoorRows
import GoSem.ClaimSeven
namespace Go.Proofs.YthiopkndbicmkabDoor
namespace Rows

/-- THE TIED CARD OF 'retortlaw10.CellNones'. -/
def cellNonesCard : Claim7 := { stood := { row := cellNonesRow, standIns := [], harness := (true, "12eeffca44b8a64dc3bc5a7a7ba04443f74b8d385103f58f82eea52ad1ffd1ad"), looks := false }, kinds := [], alts := [], laidByText := true, laidKinds := [.data], laidTests := true, laidLooks := .later }
def CellNonesCardSaid : Prop := Claim7.holds Tryd.pinned (.plain (OpenSpec.ofChange cellNonesSpec)) cellNonesCard

/-- THE TIED CARD OF 'retortlaw10.CellOrder'. -/
def cellOrderCard : Claim7 := { stood := { row := cellOrderRow, standIns := [], harness := (true, "12eeffca44b8a64dc3bc5a7a7ba04443f74b8d385103f58f82eea52ad1ffd1ad"), looks := false }, kinds := [], alts := [], laidByText := true, laidKinds := [.data], laidTests := true, laidLooks := .later }
def CellOrderCardSaid : Prop := Claim7.holds Tryd.pinned (.plain (OpenSpec.ofChange cellOrderSpec)) cellOrderCard

/-- THE SECOND FORM's CARD OF 'retortlaw10.CellNones'. -/
def cellNonesUptoCard : Claim7 := { stood := { row := cellNonesUptoRow, standIns := [], harness := (true, "12eeffca44b8a64dc3bc5a7a7ba04443f74b8d385103f58f82eea52ad1ffd1ad"), looks := false }, kinds := [], alts := [], laidByText := true, laidKinds := [.data], laidTests := true, laidLooks := .later }
def CellNonesUptoCardSaid : Prop := Claim7.holds Tryd.pinned (.plain (OpenSpec.upto cellNonesSpec)) cellNonesUptoCard

/-- THE SECOND FORM's CARD OF 'retortlaw10.CellOrder'. -/
def cellOrderUptoCard : Claim7 := { stood := { row := cellOrderUptoRow, standIns := [], harness := (true, "12eeffca44b8a64dc3bc5a7a7ba04443f74b8d385103f58f82eea52ad1ffd1ad"), looks := false }, kinds := [], alts := [], laidByText := true, laidKinds := [.data], laidTests := true, laidLooks := .later }
def CellOrderUptoCardSaid : Prop := Claim7.holds Tryd.pinned (.plain (OpenSpec.upto cellOrderSpec)) cellOrderUptoCard
end Rows
end Go.Proofs.YthiopkndbicmkabDoor

/-
  DERIVED. GIVEN WITH THE SEED: THE CARDS: each row of YtjdbmjkidljhpaaDoorRows.lean that lists a variable, with what it lists TIED to the program's text (the seventh form; the later family's looks); each row that meets fmt, with fmt's text TOLD by the authors' own Lean function (tested against real Go, not proved from fmt's source: count such statements apart). THE CARD IS WHAT COUNTS. Prove the row's statement (the work); the ties are given (YtjdbmjkidljhpaaDoorTie.lean); close each card by the builder's one call (the guide's Derived/Test/ToyasCard.lean, 'card_holds'). Laid BY PROGRAM, IN A SANDBOX (cutbox-door.mjs). By AI agents, Wed Nov 11 2026. No macro, syntax, notation, axiom, sorry.
-/
import Derived.Test.YtjdbmjkidljhpaaDoorRows
import GoSem.ClaimSeven
namespace Go.Proofs.YtjdbmjkidljhpaaDoor
namespace Rows

/-- THE TIED CARD OF 'retortlaw4.CasFound'. -/
def casFoundCard : Claim7 := { stood := { row := casFoundRow, standIns := [], harness := (true, "74622fd31667e5b0fe939c555afb456ae68da9344fdf6eaba5109db41fd4917e"), looks := true }, kinds := [], alts := [], laidByText := true, laidKinds := [.data], laidTests := true, laidLooks := .later }
def CasFoundCardSaid : Prop := Claim7.holds Tryd.pinned (.plain (OpenSpec.ofChange casFoundSpec)) casFoundCard

/-- THE TIED CARD OF 'retortlaw4.CasRoom'. -/
def casRoomCard : Claim7 := { stood := { row := casRoomRow, standIns := [], harness := (true, "74622fd31667e5b0fe939c555afb456ae68da9344fdf6eaba5109db41fd4917e"), looks := true }, kinds := [], alts := [], laidByText := true, laidKinds := [.data], laidTests := true, laidLooks := .later }
def CasRoomCardSaid : Prop := Claim7.holds Tryd.pinned (.plain (OpenSpec.ofChange casRoomSpec)) casRoomCard

/-- THE TIED CARD OF 'retortlaw4.CasClash'. -/
def casClashCard : Claim7 := { stood := { row := casClashRow, standIns := [], harness := (true, "74622fd31667e5b0fe939c555afb456ae68da9344fdf6eaba5109db41fd4917e"), looks := true }, kinds := [], alts := [], laidByText := true, laidKinds := [.data], laidTests := true, laidLooks := .later }
def CasClashCardSaid : Prop := Claim7.holds Tryd.pinned (.plain (OpenSpec.ofChange casClashSpec)) casClashCard

/-- THE TIED CARD OF 'retortlaw4.CasBig'. -/
def casBigCard : Claim7 := { stood := { row := casBigRow, standIns := [], harness := (true, "74622fd31667e5b0fe939c555afb456ae68da9344fdf6eaba5109db41fd4917e"), looks := true }, kinds := [], alts := [], laidByText := true, laidKinds := [.data], laidTests := true, laidLooks := .later }
def CasBigCardSaid : Prop := Claim7.holds Tryd.pinned (.plain (OpenSpec.ofChange casBigSpec)) casBigCard

/-- THE SECOND FORM's CARD OF 'retortlaw4.CasFound'. -/
def casFoundUptoCard : Claim7 := { stood := { row := casFoundUptoRow, standIns := [], harness := (true, "74622fd31667e5b0fe939c555afb456ae68da9344fdf6eaba5109db41fd4917e"), looks := true }, kinds := [], alts := [], laidByText := true, laidKinds := [.data], laidTests := true, laidLooks := .later }
def CasFoundUptoCardSaid : Prop := Claim7.holds Tryd.pinned (.plain (OpenSpec.upto casFoundSpec)) casFoundUptoCard

/-- THE SECOND FORM's CARD OF 'retortlaw4.CasRoom'. -/
def casRoomUptoCard : Claim7 := { stood := { row := casRoomUptoRow, standIns := [], harness := (true, "74622fd31667e5b0fe939c555afb456ae68da9344fdf6eaba5109db41fd4917e"), looks := true }, kinds := [], alts := [], laidByText := true, laidKinds := [.data], laidTests := true, laidLooks := .later }
def CasRoomUptoCardSaid : Prop := Claim7.holds Tryd.pinned (.plain (OpenSpec.upto casRoomSpec)) casRoomUptoCard

/-- THE SECOND FORM's CARD OF 'retortlaw4.CasClash'. -/
def casClashUptoCard : Claim7 := { stood := { row := casClashUptoRow, standIns := [], harness := (true, "74622fd31667e5b0fe939c555afb456ae68da9344fdf6eaba5109db41fd4917e"), looks := true }, kinds := [], alts := [], laidByText := true, laidKinds := [.data], laidTests := true, laidLooks := .later }
def CasClashUptoCardSaid : Prop := Claim7.holds Tryd.pinned (.plain (OpenSpec.upto casClashSpec)) casClashUptoCard

/-- THE SECOND FORM's CARD OF 'retortlaw4.CasBig'. -/
def casBigUptoCard : Claim7 := { stood := { row := casBigUptoRow, standIns := [], harness := (true, "74622fd31667e5b0fe939c555afb456ae68da9344fdf6eaba5109db41fd4917e"), looks := true }, kinds := [], alts := [], laidByText := true, laidKinds := [.data], laidTests := true, laidLooks := .later }
def CasBigUptoCardSaid : Prop := Claim7.holds Tryd.pinned (.plain (OpenSpec.upto casBigSpec)) casBigUptoCard
end Rows
end Go.Proofs.YtjdbmjkidljhpaaDoor

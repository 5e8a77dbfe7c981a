/-
  DERIVED. GIVEN WITH THE SEED: THE CARDS: each row of YtjdbmjkidljhpabGreatDoorRows.lean that lists a variable, with what it lists TIED to the program's text (the seventh form; the later family's looks); each row that meets fmt, with fmt's text TOLD by the authors' own Lean function (tested against real Go, not proved from fmt's source: count such statements apart). THE CARD IS WHAT COUNTS. Prove the row's statement (the work); the ties are given (YtjdbmjkidljhpabGreatDoorTie.lean); close each card by the builder's one call (the guide's Derived/Test/ToyasCard.lean, 'card_holds'). Laid BY PROGRAM, IN A SANDBOX (cutbox-door.mjs). By AI agents, Wed Nov 11 2026. No macro, syntax, notation, axiom, sorry.
-/
import Derived.Test.YtjdbmjkidljhpabGreatDoorRows
import GoSem.ClaimSeven
namespace Go.Proofs.YtjdbmjkidljhpabGreatDoor
namespace Rows

/-- THE TIED CARD OF 'retortlaw4.CasApart'. -/
def casApartCard : Claim7 := { stood := { row := casApartRow, standIns := [], harness := (true, "e7dd4b45bea67ad77fe97f5aa6ac1339c1f383f41c8d065db447d1a655c997eb"), looks := true }, kinds := [], alts := [], laidByText := true, laidKinds := [.data], laidTests := true, laidLooks := .later }
def CasApartCardSaid : Prop := Claim7.holds Tryz.pinned (.plain (OpenSpec.ofChange casApartSpec)) casApartCard

/-- THE SECOND FORM's CARD OF 'retortlaw4.CasApart'. -/
def casApartUptoCard : Claim7 := { stood := { row := casApartUptoRow, standIns := [], harness := (true, "e7dd4b45bea67ad77fe97f5aa6ac1339c1f383f41c8d065db447d1a655c997eb"), looks := true }, kinds := [], alts := [], laidByText := true, laidKinds := [.data], laidTests := true, laidLooks := .later }
def CasApartUptoCardSaid : Prop := Claim7.holds Tryz.pinned (.plain (OpenSpec.upto casApartSpec)) casApartUptoCard
end Rows
end Go.Proofs.YtjdbmjkidljhpabGreatDoor

/-
  DERIVED. GIVEN WITH THE SEED: THE CARDS: each row of YtkilngknklpadaaGreatDoorRows.lean that lists a variable, with what it lists TIED to the program's text (the seventh form; the later family's looks); each row that meets fmt, with fmt's text TOLD by the authors' own Lean function (tested against real Go, not proved from fmt's source: count such statements apart). THE CARD IS WHAT COUNTS. Prove the row's statement (the work); the ties are given (YtkilngknklpadaaGreatDoorTie.lean); close each card by the builder's one call (the guide's Derived/Test/ToyasCard.lean, 'card_holds'). Laid BY PROGRAM, IN A SANDBOX (cutbox-door.mjs). By AI agents, Wed Nov 11 2026. No macro, syntax, notation, axiom, sorry.
-/
import Derived.Test.YtkilngknklpadaaGreatDoorRows
import GoSem.ClaimSeven
namespace Go.Proofs.YtkilngknklpadaaGreatDoor
namespace Rows

/-- THE TIED CARD OF 'retortlaw14.AsmErrors'. -/
def asmErrorsCard : Claim7 := { stood := { row := asmErrorsRow, standIns := [], harness := (true, "42b257619d4664fc8b53ce1e115eddcf3bab6496f8b6f74e4f57073a0c0871e4"), looks := true }, kinds := [], alts := [], laidByText := true, laidKinds := [.data, .data, .data, .data, .sentinel, .sentinel, .pinned], laidTests := true, laidLooks := .later }
def AsmErrorsCardSaid : Prop := Claim7.holds Tryz.pinned (.plain (OpenSpec.ofChange asmErrorsSpec)) asmErrorsCard

/-- THE SECOND FORM's CARD OF 'retortlaw14.AsmErrors'. -/
def asmErrorsUptoCard : Claim7 := { stood := { row := asmErrorsUptoRow, standIns := [], harness := (true, "42b257619d4664fc8b53ce1e115eddcf3bab6496f8b6f74e4f57073a0c0871e4"), looks := true }, kinds := [], alts := [], laidByText := true, laidKinds := [.data, .data, .data, .data, .sentinel, .sentinel, .pinned], laidTests := true, laidLooks := .later }
def AsmErrorsUptoCardSaid : Prop := Claim7.holds Tryz.pinned (.plain (OpenSpec.upto asmErrorsSpec)) asmErrorsUptoCard
end Rows
end Go.Proofs.YtkilngknklpadaaGreatDoor

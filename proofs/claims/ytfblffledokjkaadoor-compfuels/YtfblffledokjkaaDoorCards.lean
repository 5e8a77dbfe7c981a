/-
  DERIVED. GIVEN WITH THE SEED: THE CARDS: each row of YtfblffledokjkaaDoorRows.lean that lists a variable, with what it lists TIED to the program's text (the seventh form; the later family's looks); each row that meets fmt, with fmt's text TOLD by the authors' own Lean function (tested against real Go, not proved from fmt's source: count such statements apart). THE CARD IS WHAT COUNTS. Prove the row's statement (the work); the ties are given (YtfblffledokjkaaDoorTie.lean); close each card by the builder's one call (the guide's Derived/Test/ToyasCard.lean, 'card_holds'). Laid BY PROGRAM, IN A SANDBOX (cutbox-door.mjs). By AI agents, Wed Nov 11 2026. No macro, syntax, notation, axiom, sorry.
-/
import Derived.Test.YtfblffledokjkaaDoorRows
import GoSem.ClaimSeven
namespace Go.Proofs.YtfblffledokjkaaDoor
namespace Rows

/-- THE TIED CARD OF 'retortlaw18.CompRuns'. -/
def compRunsCard : Claim7 := { stood := { row := compRunsRow, standIns := [], harness := (true, "31fe78659aa5665897539bdecd6cc12084f499638f6bf1a43dfb6f150b521164"), looks := false }, kinds := [], alts := [], laidByText := true, laidKinds := [.data], laidTests := true, laidLooks := .later }
def CompRunsCardSaid : Prop := Claim7.holds Tryd.pinned (.plain (OpenSpec.ofChange compRunsSpec)) compRunsCard

/-- THE TIED CARD OF 'retortlaw18.CompFuels'. -/
def compFuelsCard : Claim7 := { stood := { row := compFuelsRow, standIns := [], harness := (true, "31fe78659aa5665897539bdecd6cc12084f499638f6bf1a43dfb6f150b521164"), looks := false }, kinds := [], alts := [], laidByText := true, laidKinds := [.data], laidTests := true, laidLooks := .later }
def CompFuelsCardSaid : Prop := Claim7.holds Tryd.pinned (.plain (OpenSpec.ofChange compFuelsSpec)) compFuelsCard

/-- THE TIED CARD OF 'retortlaw18.CompBook'. -/
def compBookCard : Claim7 := { stood := { row := compBookRow, standIns := [], harness := (true, "31fe78659aa5665897539bdecd6cc12084f499638f6bf1a43dfb6f150b521164"), looks := false }, kinds := [], alts := [], laidByText := true, laidKinds := [.data], laidTests := true, laidLooks := .later }
def CompBookCardSaid : Prop := Claim7.holds Tryd.pinned (.plain (OpenSpec.ofChange compBookSpec)) compBookCard

/-- THE SECOND FORM's CARD OF 'retortlaw18.CompRuns'. -/
def compRunsUptoCard : Claim7 := { stood := { row := compRunsUptoRow, standIns := [], harness := (true, "31fe78659aa5665897539bdecd6cc12084f499638f6bf1a43dfb6f150b521164"), looks := false }, kinds := [], alts := [], laidByText := true, laidKinds := [.data], laidTests := true, laidLooks := .later }
def CompRunsUptoCardSaid : Prop := Claim7.holds Tryd.pinned (.plain (OpenSpec.upto compRunsSpec)) compRunsUptoCard

/-- THE SECOND FORM's CARD OF 'retortlaw18.CompFuels'. -/
def compFuelsUptoCard : Claim7 := { stood := { row := compFuelsUptoRow, standIns := [], harness := (true, "31fe78659aa5665897539bdecd6cc12084f499638f6bf1a43dfb6f150b521164"), looks := false }, kinds := [], alts := [], laidByText := true, laidKinds := [.data], laidTests := true, laidLooks := .later }
def CompFuelsUptoCardSaid : Prop := Claim7.holds Tryd.pinned (.plain (OpenSpec.upto compFuelsSpec)) compFuelsUptoCard

/-- THE SECOND FORM's CARD OF 'retortlaw18.CompBook'. -/
def compBookUptoCard : Claim7 := { stood := { row := compBookUptoRow, standIns := [], harness := (true, "31fe78659aa5665897539bdecd6cc12084f499638f6bf1a43dfb6f150b521164"), looks := false }, kinds := [], alts := [], laidByText := true, laidKinds := [.data], laidTests := true, laidLooks := .later }
def CompBookUptoCardSaid : Prop := Claim7.holds Tryd.pinned (.plain (OpenSpec.upto compBookSpec)) compBookUptoCard
end Rows
end Go.Proofs.YtfblffledokjkaaDoor

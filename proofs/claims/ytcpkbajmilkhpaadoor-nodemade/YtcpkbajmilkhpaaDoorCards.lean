/-
  DERIVED. GIVEN WITH THE SEED: THE CARDS: each row of YtcpkbajmilkhpaaDoorRows.lean that lists a variable, with what it lists TIED to the program's text (the seventh form; the later family's looks); each row that meets fmt, with fmt's text TOLD by the authors' own Lean function (tested against real Go, not proved from fmt's source: count such statements apart). THE CARD IS WHAT COUNTS. Prove the row's statement (the work); the ties are given (YtcpkbajmilkhpaaDoorTie.lean); close each card by the builder's one call (the guide's Derived/Test/ToyasCard.lean, 'card_holds'). Laid BY PROGRAM, IN A SANDBOX (cutbox-door.mjs). By AI agents, Wed Nov 11 2026. No macro, syntax, notation, axiom, sorry.
-/
import Derived.Test.YtcpkbajmilkhpaaDoorRows
import GoSem.ClaimSeven
namespace Go.Proofs.YtcpkbajmilkhpaaDoor
namespace Rows

/-- THE TIED CARD OF 'retortlaw5.NodeChecks'. -/
def nodeChecksCard : Claim7 := { stood := { row := nodeChecksRow, standIns := [], harness := (true, "25fd8e4ad82d1f95c2fd28c4763a482815f86aa1f7e96bdd575f06edb20fd3dc"), looks := true }, kinds := [], alts := [], laidByText := true, laidKinds := [.data, .pinned], laidTests := true, laidLooks := .later }
def NodeChecksCardSaid : Prop := Claim7.holds Tryd.pinned (.plain (OpenSpec.ofChange nodeChecksSpec)) nodeChecksCard

/-- THE TIED CARD OF 'retortlaw5.NodeReads'. -/
def nodeReadsCard : Claim7 := { stood := { row := nodeReadsRow, standIns := [], harness := (true, "25fd8e4ad82d1f95c2fd28c4763a482815f86aa1f7e96bdd575f06edb20fd3dc"), looks := true }, kinds := [], alts := [], laidByText := true, laidKinds := [.data, .pinned], laidTests := true, laidLooks := .later }
def NodeReadsCardSaid : Prop := Claim7.holds Tryd.pinned (.plain (OpenSpec.ofChange nodeReadsSpec)) nodeReadsCard

/-- THE TIED CARD OF 'retortlaw5.NodeTurns'. -/
def nodeTurnsCard : Claim7 := { stood := { row := nodeTurnsRow, standIns := [], harness := (true, "25fd8e4ad82d1f95c2fd28c4763a482815f86aa1f7e96bdd575f06edb20fd3dc"), looks := true }, kinds := [], alts := [], laidByText := true, laidKinds := [.data, .pinned], laidTests := true, laidLooks := .later }
def NodeTurnsCardSaid : Prop := Claim7.holds Tryd.pinned (.plain (OpenSpec.ofChange nodeTurnsSpec)) nodeTurnsCard

/-- THE TIED CARD OF 'retortlaw5.NodeEdits'. -/
def nodeEditsCard : Claim7 := { stood := { row := nodeEditsRow, standIns := [], harness := (true, "25fd8e4ad82d1f95c2fd28c4763a482815f86aa1f7e96bdd575f06edb20fd3dc"), looks := true }, kinds := [], alts := [], laidByText := true, laidKinds := [.data, .pinned], laidTests := true, laidLooks := .later }
def NodeEditsCardSaid : Prop := Claim7.holds Tryd.pinned (.plain (OpenSpec.ofChange nodeEditsSpec)) nodeEditsCard

/-- THE TIED CARD OF 'retortlaw5.NodeBack'. -/
def nodeBackCard : Claim7 := { stood := { row := nodeBackRow, standIns := [], harness := (true, "25fd8e4ad82d1f95c2fd28c4763a482815f86aa1f7e96bdd575f06edb20fd3dc"), looks := true }, kinds := [], alts := [], laidByText := true, laidKinds := [.data, .pinned], laidTests := true, laidLooks := .later }
def NodeBackCardSaid : Prop := Claim7.holds Tryd.pinned (.plain (OpenSpec.ofChange nodeBackSpec)) nodeBackCard

/-- THE TIED CARD OF 'retortlaw5.NodeMade'. -/
def nodeMadeCard : Claim7 := { stood := { row := nodeMadeRow, standIns := [], harness := (true, "25fd8e4ad82d1f95c2fd28c4763a482815f86aa1f7e96bdd575f06edb20fd3dc"), looks := true }, kinds := [], alts := [], laidByText := true, laidKinds := [.data, .pinned], laidTests := true, laidLooks := .later }
def NodeMadeCardSaid : Prop := Claim7.holds Tryd.pinned (.plain (OpenSpec.ofChange nodeMadeSpec)) nodeMadeCard

/-- THE SECOND FORM's CARD OF 'retortlaw5.NodeChecks'. -/
def nodeChecksUptoCard : Claim7 := { stood := { row := nodeChecksUptoRow, standIns := [], harness := (true, "25fd8e4ad82d1f95c2fd28c4763a482815f86aa1f7e96bdd575f06edb20fd3dc"), looks := true }, kinds := [], alts := [], laidByText := true, laidKinds := [.data, .pinned], laidTests := true, laidLooks := .later }
def NodeChecksUptoCardSaid : Prop := Claim7.holds Tryd.pinned (.plain (OpenSpec.upto nodeChecksSpec)) nodeChecksUptoCard

/-- THE SECOND FORM's CARD OF 'retortlaw5.NodeReads'. -/
def nodeReadsUptoCard : Claim7 := { stood := { row := nodeReadsUptoRow, standIns := [], harness := (true, "25fd8e4ad82d1f95c2fd28c4763a482815f86aa1f7e96bdd575f06edb20fd3dc"), looks := true }, kinds := [], alts := [], laidByText := true, laidKinds := [.data, .pinned], laidTests := true, laidLooks := .later }
def NodeReadsUptoCardSaid : Prop := Claim7.holds Tryd.pinned (.plain (OpenSpec.upto nodeReadsSpec)) nodeReadsUptoCard

/-- THE SECOND FORM's CARD OF 'retortlaw5.NodeTurns'. -/
def nodeTurnsUptoCard : Claim7 := { stood := { row := nodeTurnsUptoRow, standIns := [], harness := (true, "25fd8e4ad82d1f95c2fd28c4763a482815f86aa1f7e96bdd575f06edb20fd3dc"), looks := true }, kinds := [], alts := [], laidByText := true, laidKinds := [.data, .pinned], laidTests := true, laidLooks := .later }
def NodeTurnsUptoCardSaid : Prop := Claim7.holds Tryd.pinned (.plain (OpenSpec.upto nodeTurnsSpec)) nodeTurnsUptoCard

/-- THE SECOND FORM's CARD OF 'retortlaw5.NodeEdits'. -/
def nodeEditsUptoCard : Claim7 := { stood := { row := nodeEditsUptoRow, standIns := [], harness := (true, "25fd8e4ad82d1f95c2fd28c4763a482815f86aa1f7e96bdd575f06edb20fd3dc"), looks := true }, kinds := [], alts := [], laidByText := true, laidKinds := [.data, .pinned], laidTests := true, laidLooks := .later }
def NodeEditsUptoCardSaid : Prop := Claim7.holds Tryd.pinned (.plain (OpenSpec.upto nodeEditsSpec)) nodeEditsUptoCard

/-- THE SECOND FORM's CARD OF 'retortlaw5.NodeBack'. -/
def nodeBackUptoCard : Claim7 := { stood := { row := nodeBackUptoRow, standIns := [], harness := (true, "25fd8e4ad82d1f95c2fd28c4763a482815f86aa1f7e96bdd575f06edb20fd3dc"), looks := true }, kinds := [], alts := [], laidByText := true, laidKinds := [.data, .pinned], laidTests := true, laidLooks := .later }
def NodeBackUptoCardSaid : Prop := Claim7.holds Tryd.pinned (.plain (OpenSpec.upto nodeBackSpec)) nodeBackUptoCard

/-- THE SECOND FORM's CARD OF 'retortlaw5.NodeMade'. -/
def nodeMadeUptoCard : Claim7 := { stood := { row := nodeMadeUptoRow, standIns := [], harness := (true, "25fd8e4ad82d1f95c2fd28c4763a482815f86aa1f7e96bdd575f06edb20fd3dc"), looks := true }, kinds := [], alts := [], laidByText := true, laidKinds := [.data, .pinned], laidTests := true, laidLooks := .later }
def NodeMadeUptoCardSaid : Prop := Claim7.holds Tryd.pinned (.plain (OpenSpec.upto nodeMadeSpec)) nodeMadeUptoCard
end Rows
end Go.Proofs.YtcpkbajmilkhpaaDoor

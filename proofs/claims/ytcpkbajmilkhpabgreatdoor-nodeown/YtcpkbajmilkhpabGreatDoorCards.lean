/-
  DERIVED. GIVEN WITH THE SEED: THE CARDS: each row of YtcpkbajmilkhpabGreatDoorRows.lean that lists a variable, with what it lists TIED to the program's text (the seventh form; the later family's looks); each row that meets fmt, with fmt's text TOLD by the authors' own Lean function (tested against real Go, not proved from fmt's source: count such statements apart). THE CARD IS WHAT COUNTS. Prove the row's statement (the work); the ties are given (YtcpkbajmilkhpabGreatDoorTie.lean); close each card by the builder's one call (the guide's Derived/Test/ToyasCard.lean, 'card_holds'). Laid BY PROGRAM, IN A SANDBOX (cutbox-door.mjs). By AI agents, Wed Nov 11 2026. No macro, syntax, notation, axiom, sorry.
-/
import Derived.Test.YtcpkbajmilkhpabGreatDoorRows
import GoSem.ClaimSeven
namespace Go.Proofs.YtcpkbajmilkhpabGreatDoor
namespace Rows

/-- THE TIED CARD OF 'retortlaw5.NodeOwn'. -/
def nodeOwnCard : Claim7 := { stood := { row := nodeOwnRow, standIns := [], harness := (true, "b71a194841091ab0d0d58a2a00f406fa1d101c2d9731e94dfcec25a4188ce464"), looks := true }, kinds := [], alts := [], laidByText := true, laidKinds := [.data, .pinned], laidTests := true, laidLooks := .later }
def NodeOwnCardSaid : Prop := Claim7.holds Tryz.pinned (.plain (OpenSpec.ofChange nodeOwnSpec)) nodeOwnCard

/-- THE SECOND FORM's CARD OF 'retortlaw5.NodeOwn'. -/
def nodeOwnUptoCard : Claim7 := { stood := { row := nodeOwnUptoRow, standIns := [], harness := (true, "b71a194841091ab0d0d58a2a00f406fa1d101c2d9731e94dfcec25a4188ce464"), looks := true }, kinds := [], alts := [], laidByText := true, laidKinds := [.data, .pinned], laidTests := true, laidLooks := .later }
def NodeOwnUptoCardSaid : Prop := Claim7.holds Tryz.pinned (.plain (OpenSpec.upto nodeOwnSpec)) nodeOwnUptoCard
end Rows
end Go.Proofs.YtcpkbajmilkhpabGreatDoor

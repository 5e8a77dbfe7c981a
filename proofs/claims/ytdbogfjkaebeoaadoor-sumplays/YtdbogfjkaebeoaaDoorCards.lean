/-
  DERIVED. GIVEN WITH THE SEED: THE CARDS: each row of YtdbogfjkaebeoaaDoorRows.lean that lists a variable, with what it lists TIED to the program's text (the seventh form; the later family's looks); each row that meets fmt, with fmt's text TOLD by the authors' own Lean function (tested against real Go, not proved from fmt's source: count such statements apart). THE CARD IS WHAT COUNTS. Prove the row's statement (the work); the ties are given (YtdbogfjkaebeoaaDoorTie.lean); close each card by the builder's one call (the guide's Derived/Test/ToyasCard.lean, 'card_holds'). Laid BY PROGRAM, IN A SANDBOX (cutbox-door.mjs). By AI agents, Wed Nov 11 2026. No macro, syntax, notation, axiom, sorry.
-/
import Derived.Test.YtdbogfjkaebeoaaDoorRows
import GoSem.ClaimSeven
namespace Go.Proofs.YtdbogfjkaebeoaaDoor
namespace Rows

/-- THE TIED CARD OF 'retortlaw2.SumOf'. -/
def sumOfCard : Claim7 := { stood := { row := sumOfRow, standIns := [], harness := (true, "d34bb0c5f03d9af7842788eb30728a9b64f7fbc949258aaa085adf86c7bb4200"), looks := false }, kinds := [], alts := [], laidByText := true, laidKinds := [.data], laidTests := true, laidLooks := .later }
def SumOfCardSaid : Prop := Claim7.holds Tryd.pinned (.plain (OpenSpec.ofChange sumOfSpec)) sumOfCard

/-- THE TIED CARD OF 'retortlaw2.SumPlays'. -/
def sumPlaysCard : Claim7 := { stood := { row := sumPlaysRow, standIns := [], harness := (true, "d34bb0c5f03d9af7842788eb30728a9b64f7fbc949258aaa085adf86c7bb4200"), looks := false }, kinds := [], alts := [], laidByText := true, laidKinds := [.data], laidTests := true, laidLooks := .later }
def SumPlaysCardSaid : Prop := Claim7.holds Tryd.pinned (.plain (OpenSpec.ofChange sumPlaysSpec)) sumPlaysCard

/-- THE TIED CARD OF 'retortlaw2.SumCuts'. -/
def sumCutsCard : Claim7 := { stood := { row := sumCutsRow, standIns := [], harness := (true, "d34bb0c5f03d9af7842788eb30728a9b64f7fbc949258aaa085adf86c7bb4200"), looks := false }, kinds := [], alts := [], laidByText := true, laidKinds := [.data], laidTests := true, laidLooks := .later }
def SumCutsCardSaid : Prop := Claim7.holds Tryd.pinned (.plain (OpenSpec.ofChange sumCutsSpec)) sumCutsCard

/-- THE TIED CARD OF 'retortlaw2.SumTexts'. -/
def sumTextsCard : Claim7 := { stood := { row := sumTextsRow, standIns := [], harness := (true, "d34bb0c5f03d9af7842788eb30728a9b64f7fbc949258aaa085adf86c7bb4200"), looks := false }, kinds := [], alts := [], laidByText := true, laidKinds := [.data], laidTests := true, laidLooks := .later }
def SumTextsCardSaid : Prop := Claim7.holds Tryd.pinned (.plain (OpenSpec.ofChange sumTextsSpec)) sumTextsCard

/-- THE TIED CARD OF 'retortlaw2.SumLess'. -/
def sumLessCard : Claim7 := { stood := { row := sumLessRow, standIns := [], harness := (true, "d34bb0c5f03d9af7842788eb30728a9b64f7fbc949258aaa085adf86c7bb4200"), looks := false }, kinds := [], alts := [], laidByText := true, laidKinds := [.data], laidTests := true, laidLooks := .later }
def SumLessCardSaid : Prop := Claim7.holds Tryd.pinned (.plain (OpenSpec.ofChange sumLessSpec)) sumLessCard

/-- THE TIED CARD OF 'retortlaw2.SumPieces'. -/
def sumPiecesCard : Claim7 := { stood := { row := sumPiecesRow, standIns := [], harness := (true, "d34bb0c5f03d9af7842788eb30728a9b64f7fbc949258aaa085adf86c7bb4200"), looks := false }, kinds := [], alts := [], laidByText := true, laidKinds := [.data], laidTests := true, laidLooks := .later }
def SumPiecesCardSaid : Prop := Claim7.holds Tryd.pinned (.plain (OpenSpec.ofChange sumPiecesSpec)) sumPiecesCard

/-- THE SECOND FORM's CARD OF 'retortlaw2.SumOf'. -/
def sumOfUptoCard : Claim7 := { stood := { row := sumOfUptoRow, standIns := [], harness := (true, "d34bb0c5f03d9af7842788eb30728a9b64f7fbc949258aaa085adf86c7bb4200"), looks := false }, kinds := [], alts := [], laidByText := true, laidKinds := [.data], laidTests := true, laidLooks := .later }
def SumOfUptoCardSaid : Prop := Claim7.holds Tryd.pinned (.plain (OpenSpec.upto sumOfSpec)) sumOfUptoCard

/-- THE SECOND FORM's CARD OF 'retortlaw2.SumPlays'. -/
def sumPlaysUptoCard : Claim7 := { stood := { row := sumPlaysUptoRow, standIns := [], harness := (true, "d34bb0c5f03d9af7842788eb30728a9b64f7fbc949258aaa085adf86c7bb4200"), looks := false }, kinds := [], alts := [], laidByText := true, laidKinds := [.data], laidTests := true, laidLooks := .later }
def SumPlaysUptoCardSaid : Prop := Claim7.holds Tryd.pinned (.plain (OpenSpec.upto sumPlaysSpec)) sumPlaysUptoCard

/-- THE SECOND FORM's CARD OF 'retortlaw2.SumCuts'. -/
def sumCutsUptoCard : Claim7 := { stood := { row := sumCutsUptoRow, standIns := [], harness := (true, "d34bb0c5f03d9af7842788eb30728a9b64f7fbc949258aaa085adf86c7bb4200"), looks := false }, kinds := [], alts := [], laidByText := true, laidKinds := [.data], laidTests := true, laidLooks := .later }
def SumCutsUptoCardSaid : Prop := Claim7.holds Tryd.pinned (.plain (OpenSpec.upto sumCutsSpec)) sumCutsUptoCard

/-- THE SECOND FORM's CARD OF 'retortlaw2.SumTexts'. -/
def sumTextsUptoCard : Claim7 := { stood := { row := sumTextsUptoRow, standIns := [], harness := (true, "d34bb0c5f03d9af7842788eb30728a9b64f7fbc949258aaa085adf86c7bb4200"), looks := false }, kinds := [], alts := [], laidByText := true, laidKinds := [.data], laidTests := true, laidLooks := .later }
def SumTextsUptoCardSaid : Prop := Claim7.holds Tryd.pinned (.plain (OpenSpec.upto sumTextsSpec)) sumTextsUptoCard

/-- THE SECOND FORM's CARD OF 'retortlaw2.SumLess'. -/
def sumLessUptoCard : Claim7 := { stood := { row := sumLessUptoRow, standIns := [], harness := (true, "d34bb0c5f03d9af7842788eb30728a9b64f7fbc949258aaa085adf86c7bb4200"), looks := false }, kinds := [], alts := [], laidByText := true, laidKinds := [.data], laidTests := true, laidLooks := .later }
def SumLessUptoCardSaid : Prop := Claim7.holds Tryd.pinned (.plain (OpenSpec.upto sumLessSpec)) sumLessUptoCard

/-- THE SECOND FORM's CARD OF 'retortlaw2.SumPieces'. -/
def sumPiecesUptoCard : Claim7 := { stood := { row := sumPiecesUptoRow, standIns := [], harness := (true, "d34bb0c5f03d9af7842788eb30728a9b64f7fbc949258aaa085adf86c7bb4200"), looks := false }, kinds := [], alts := [], laidByText := true, laidKinds := [.data], laidTests := true, laidLooks := .later }
def SumPiecesUptoCardSaid : Prop := Claim7.holds Tryd.pinned (.plain (OpenSpec.upto sumPiecesSpec)) sumPiecesUptoCard
end Rows
end Go.Proofs.YtdbogfjkaebeoaaDoor

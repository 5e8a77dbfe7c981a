/-
  DERIVED. GIVEN WITH THE SEED: THE CARDS: each row of YthiopkndbicmkaaDoorRows.lean that lists a variable, with what it lists TIED to the program's text (the seventh form; the later family's looks); each row that meets fmt, with fmt's text TOLD by the authors' own Lean function (tested against real Go, not proved from fmt's source: count such statements apart). THE CARD IS WHAT COUNTS. Prove the row's statement (the work); the ties are given (YthiopkndbicmkaaDoorTie.lean); close each card by the builder's one call (the guide's Derived/Test/ToyasCard.lean, 'card_holds'). Laid BY PROGRAM, IN A SANDBOX (cutbox-door.mjs). By AI agents, Wed Nov 11 2026. No macro, syntax, notation, axiom, sorry.
-/
import Derived.Test.YthiopkndbicmkaaDoorRows
import GoSem.ClaimSeven
namespace Go.Proofs.YthiopkndbicmkaaDoor
namespace Rows

/-- THE TIED CARD OF 'retortlaw10.CellTwos'. -/
def cellTwosCard : Claim7 := { stood := { row := cellTwosRow, standIns := [], harness := (true, "dc4c99092ad67f5148ab3493bb6ac457a5e9ef8a309f30b6c1beabd8260a6640"), looks := false }, kinds := [], alts := [], laidByText := true, laidKinds := [.data], laidTests := true, laidLooks := .later }
def CellTwosCardSaid : Prop := Claim7.holds Tryd.pinned (.plain (OpenSpec.ofChange cellTwosSpec)) cellTwosCard

/-- THE TIED CARD OF 'retortlaw10.CellOnes'. -/
def cellOnesCard : Claim7 := { stood := { row := cellOnesRow, standIns := [], harness := (true, "dc4c99092ad67f5148ab3493bb6ac457a5e9ef8a309f30b6c1beabd8260a6640"), looks := false }, kinds := [], alts := [], laidByText := true, laidKinds := [.data], laidTests := true, laidLooks := .later }
def CellOnesCardSaid : Prop := Claim7.holds Tryd.pinned (.plain (OpenSpec.ofChange cellOnesSpec)) cellOnesCard

/-- THE TIED CARD OF 'retortlaw10.CellBits'. -/
def cellBitsCard : Claim7 := { stood := { row := cellBitsRow, standIns := [], harness := (true, "dc4c99092ad67f5148ab3493bb6ac457a5e9ef8a309f30b6c1beabd8260a6640"), looks := false }, kinds := [], alts := [], laidByText := true, laidKinds := [.data], laidTests := true, laidLooks := .later }
def CellBitsCardSaid : Prop := Claim7.holds Tryd.pinned (.plain (OpenSpec.ofChange cellBitsSpec)) cellBitsCard

/-- THE TIED CARD OF 'retortlaw10.CellWhole'. -/
def cellWholeCard : Claim7 := { stood := { row := cellWholeRow, standIns := [], harness := (true, "dc4c99092ad67f5148ab3493bb6ac457a5e9ef8a309f30b6c1beabd8260a6640"), looks := false }, kinds := [], alts := [], laidByText := true, laidKinds := [.data], laidTests := true, laidLooks := .later }
def CellWholeCardSaid : Prop := Claim7.holds Tryd.pinned (.plain (OpenSpec.ofChange cellWholeSpec)) cellWholeCard

/-- THE TIED CARD OF 'retortlaw10.CellShifts'. -/
def cellShiftsCard : Claim7 := { stood := { row := cellShiftsRow, standIns := [], harness := (true, "dc4c99092ad67f5148ab3493bb6ac457a5e9ef8a309f30b6c1beabd8260a6640"), looks := false }, kinds := [], alts := [], laidByText := true, laidKinds := [.data], laidTests := true, laidLooks := .later }
def CellShiftsCardSaid : Prop := Claim7.holds Tryd.pinned (.plain (OpenSpec.ofChange cellShiftsSpec)) cellShiftsCard

/-- THE TIED CARD OF 'retortlaw10.CellExact'. -/
def cellExactCard : Claim7 := { stood := { row := cellExactRow, standIns := [], harness := (true, "dc4c99092ad67f5148ab3493bb6ac457a5e9ef8a309f30b6c1beabd8260a6640"), looks := false }, kinds := [], alts := [], laidByText := true, laidKinds := [.data], laidTests := true, laidLooks := .later }
def CellExactCardSaid : Prop := Claim7.holds Tryd.pinned (.plain (OpenSpec.ofChange cellExactSpec)) cellExactCard

/-- THE SECOND FORM's CARD OF 'retortlaw10.CellTwos'. -/
def cellTwosUptoCard : Claim7 := { stood := { row := cellTwosUptoRow, standIns := [], harness := (true, "dc4c99092ad67f5148ab3493bb6ac457a5e9ef8a309f30b6c1beabd8260a6640"), looks := false }, kinds := [], alts := [], laidByText := true, laidKinds := [.data], laidTests := true, laidLooks := .later }
def CellTwosUptoCardSaid : Prop := Claim7.holds Tryd.pinned (.plain (OpenSpec.upto cellTwosSpec)) cellTwosUptoCard

/-- THE SECOND FORM's CARD OF 'retortlaw10.CellOnes'. -/
def cellOnesUptoCard : Claim7 := { stood := { row := cellOnesUptoRow, standIns := [], harness := (true, "dc4c99092ad67f5148ab3493bb6ac457a5e9ef8a309f30b6c1beabd8260a6640"), looks := false }, kinds := [], alts := [], laidByText := true, laidKinds := [.data], laidTests := true, laidLooks := .later }
def CellOnesUptoCardSaid : Prop := Claim7.holds Tryd.pinned (.plain (OpenSpec.upto cellOnesSpec)) cellOnesUptoCard

/-- THE SECOND FORM's CARD OF 'retortlaw10.CellBits'. -/
def cellBitsUptoCard : Claim7 := { stood := { row := cellBitsUptoRow, standIns := [], harness := (true, "dc4c99092ad67f5148ab3493bb6ac457a5e9ef8a309f30b6c1beabd8260a6640"), looks := false }, kinds := [], alts := [], laidByText := true, laidKinds := [.data], laidTests := true, laidLooks := .later }
def CellBitsUptoCardSaid : Prop := Claim7.holds Tryd.pinned (.plain (OpenSpec.upto cellBitsSpec)) cellBitsUptoCard

/-- THE SECOND FORM's CARD OF 'retortlaw10.CellWhole'. -/
def cellWholeUptoCard : Claim7 := { stood := { row := cellWholeUptoRow, standIns := [], harness := (true, "dc4c99092ad67f5148ab3493bb6ac457a5e9ef8a309f30b6c1beabd8260a6640"), looks := false }, kinds := [], alts := [], laidByText := true, laidKinds := [.data], laidTests := true, laidLooks := .later }
def CellWholeUptoCardSaid : Prop := Claim7.holds Tryd.pinned (.plain (OpenSpec.upto cellWholeSpec)) cellWholeUptoCard

/-- THE SECOND FORM's CARD OF 'retortlaw10.CellShifts'. -/
def cellShiftsUptoCard : Claim7 := { stood := { row := cellShiftsUptoRow, standIns := [], harness := (true, "dc4c99092ad67f5148ab3493bb6ac457a5e9ef8a309f30b6c1beabd8260a6640"), looks := false }, kinds := [], alts := [], laidByText := true, laidKinds := [.data], laidTests := true, laidLooks := .later }
def CellShiftsUptoCardSaid : Prop := Claim7.holds Tryd.pinned (.plain (OpenSpec.upto cellShiftsSpec)) cellShiftsUptoCard

/-- THE SECOND FORM's CARD OF 'retortlaw10.CellExact'. -/
def cellExactUptoCard : Claim7 := { stood := { row := cellExactUptoRow, standIns := [], harness := (true, "dc4c99092ad67f5148ab3493bb6ac457a5e9ef8a309f30b6c1beabd8260a6640"), looks := false }, kinds := [], alts := [], laidByText := true, laidKinds := [.data], laidTests := true, laidLooks := .later }
def CellExactUptoCardSaid : Prop := Claim7.holds Tryd.pinned (.plain (OpenSpec.upto cellExactSpec)) cellExactUptoCard
end Rows
end Go.Proofs.YthiopkndbicmkaaDoor

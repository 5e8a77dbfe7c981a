/-
  What the row's listed variables give: nothing that the walks ask for.
-/
import Derived.Test.YtcpkbajmilkhpabGreatDoorRows
import Derived.LaidMore
import Derived.Lay
import Derived.Laws.AppendOwn
import Derived.OpenShut
import Derived.Stop.Joined
import Derived.WalkKit
import Derived.ProofKit
namespace Go.Proofs.YtcpkbajmilkhpabGreatDoor
open Go.ChangeShapes Go.WideShapes Go.ChangeAt Go.WideMaps Go.WideElems Go.RowKit
set_option linter.unusedVariables false
set_option linter.unusedSimpArgs false
set_option maxRecDepth 100000

def laidT : List (String × DataW Unit) := [("unicode/utf8.acceptRanges", Rows.laid_unicode_utf8_acceptRanges), ("unicode/utf8.first", Rows.laid_unicode_utf8_first)]
theorem own : ownKnob Tryz.prog.godebug = none := by kernel_rfl
theorem laidOut : laidOutB Tryz.prog = true := by kernel_rfl
theorem laid_met (os : Os) (args : Array Value) : laidMetH Tryz.prog laidT ((World.laidAll Tryz.prog os laidT).forCall (fun _ _ => 0) ⟨#[], args, []⟩).memory := by
  rw [MakeChecks.laidMetH_plain _ _ _ (by kernel_rfl)]
  exact laidMet_laidAll _ (by kernel_rfl) (by kernel_rfl)

theorem slice_lt {t e : TypeId} (ht : Tryz.prog.underlying t = some (.slice e)) {W : World} {base : Nat} {ao : Option Addr} {len cap : Nat} (h : Value.okWide Tryz.prog W .any base t (.slice ao len cap)) : ∀ g, (Value.slice ao len cap).ownBlock = some g → g < W.heap.size := by
  intro g hg
  cases ao with
  | none => simp [Value.ownBlock] at hg
  | some a =>
    simp only [Value.okWide, ht, Cell.okWide, Cell.ok] at h
    obtain ⟨_, _, _, _, row, cells, hs, _⟩ := h
    have e : a.block = g := by simpa [Value.ownBlock] using hg
    rw [← e]
    rcases Nat.lt_or_ge a.block W.heap.size with hlt | hge
    · exact hlt
    · simp [World.shape?, Array.getElem?_eq_none hge] at hs
end Go.Proofs.YtcpkbajmilkhpabGreatDoor

/-
  strings.Contains, whatever the text.
-/
import Derived.Test.YthloacakomahaaaStrs
import Derived.Shelf.Strings.Shaped
namespace Go.Proofs.Ythloacakomahaaa
open Go.RowKit Go.Shelf
set_option linter.unusedVariables false
shelf_lay LaysM.n144 Nm 144 at Try as Try.laysM144

/-- The cell that strings.Index looks up. -/
def Cell (w : World) : Prop := ∃ m, w.cell? ⟨Try.laysM144_ren.g 1, 0, none⟩ = some (.int .i64 m)
theorem cell_open {w : World} (h : w.ShapedOpen Try.prog) : Cell w := Try.laysM144.s1_3 w h

theorem cell_lt {w : World} {a : Addr} {v : Value} (h : w.cell? a = some v) : a.block < w.heap.size := by
  unfold World.cell? at h
  split at h
  · rename_i e
    exact (Array.getElem?_eq_some_iff.1 e).1
  · cases h
theorem cell_below {w W : World} (h : Cell w) (hb : Below w.heap.size w W) : Cell W := by
  obtain ⟨m, hm⟩ := h
  refine ⟨m, (hb.cell (p := ⟨Try.laysM144_ren.g 1, 0, none⟩) ?_).trans hm⟩
  exact cell_lt hm

theorem contains_any {w : World} (h : Cell w) (s sub : ByteArray) (hs : s.size < 4294967281) :
    Calls Try.prog 39 #[.string s, .string sub] w fun e w' => e = .returned (.bool (Lib.contains s.data.toList sub.data.toList)) ∧ w' = w :=
  let ⟨m, hm⟩ := h
  Any.strings_Contains { Try.laysM144 with } s sub m w hs hm
end Go.Proofs.Ythloacakomahaaa

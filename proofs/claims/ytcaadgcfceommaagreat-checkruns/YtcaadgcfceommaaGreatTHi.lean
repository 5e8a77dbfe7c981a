import Derived.Test.YtcaadgcfceommaaGreatTHh
namespace Go.Proofs.YtcaadgcfceommaaGreat
open Go.RowKit
set_option linter.unusedVariables false
set_option linter.unusedSimpArgs false
set_option maxRecDepth 100000
theorem own_int {w : World} {b g n c : Nat} {l : List Int} (h : OwnN w b (.slice (some ⟨g, 0, none⟩) n c) l) (hn : l.length = n) {i : Nat} (hi : i < n) : w.cell? ⟨g, i, none⟩ = some (.int .i64 (l.getD i 0)) := by
 subst hn
 rw [h.cellAt _ (by omega)]
 simp [ints, List.getD, List.getElem?_eq_getElem hi]
end Go.Proofs.YtcaadgcfceommaaGreat

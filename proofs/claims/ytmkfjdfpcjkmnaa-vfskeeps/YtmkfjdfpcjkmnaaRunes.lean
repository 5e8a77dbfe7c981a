/-
  strings.IndexRune in "/" and 0, of whatever rune beyond ASCII.
-/
import Derived.Test.YtmkfjdfpcjkmnaaRune2
import Derived.Test.YtmkfjdfpcjkmnaaRune3
import Derived.Test.YtmkfjdfpcjkmnaaRune4
import Derived.Test.YtmkfjdfpcjkmnaaAnyc
namespace Go.Proofs.Ytmkfjdfpcjkmnaa
open Go.RowKit

theorem highRunes : HighRunes := fun r h1 h2 W => by
  by_cases he : r = 65533
  · subst he
    exact irune_err W
  cases hv : Lib.validRune (r : Int) with
  | false => exact irune_bad r h1 he hv W
  | true =>
    rcases enc_high r h1 with ⟨b, c, hE, hc⟩ | ⟨b, c, d, hE⟩ | ⟨b, c, d, e, hE⟩
    · exact irune_two r h1 he hv b c hE hc W
    · exact irune_three r h1 he hv b c d hE W
    · exact irune_four r h1 he hv b c d e hE W
end Go.Proofs.Ytmkfjdfpcjkmnaa

/-
  OpEncodes: the walk.
-/
import Derived.Test.YtindhkjcifghhabRg
import Derived.Test.YtindhkjcifghhabLi
import Derived.Test.YtindhkjcifghhabPe
namespace Go.Proofs.Ytindhkjcifghhab
open Go.RowKit
set_option linter.unusedVariables false
set_option linter.unusedSimpArgs false
set_option maxRecDepth 100000

/-- What Encode answers, as two values. -/
theorem EncR.out {ys : List IN} {w w' : World} {e : Ending} (h : EncR ys w e w') : ∃ v', e = .returned (.tuple #[v', .int .i64 (encE ys)]) ∧ IsB w' v' (if encE ys = 0 then encB ys else []) ∧ (∀ q, v'.ownBlock = some q → w.heap.size ≤ q) ∧ Kept (fun _ => False) w w' := by
  obtain ⟨hk, h⟩ := h
  by_cases h0 : encE ys = 0
  · rw [if_pos h0] at h ⊢
    obtain ⟨v', rfl, ho⟩ := h
    exact ⟨v', by rw [h0], isB_own ho, fun q hq => (ho.lt q hq).1, hk⟩
  · rw [if_neg h0] at h ⊢
    exact ⟨_, h, isB_nil w', fun q hq => by simp [Value.ownBlock] at hq, hk⟩

end Go.Proofs.Ytindhkjcifghhab

/-
  The reference's Encode by contract.
-/
import Derived.Test.YtnjhnlohjhdcpabRe
import Derived.Test.YtnjhnlohjhdcpabPbx
namespace Go.Proofs.Ytnjhnlohjhdcpab
open Go.RowKit
set_option linter.unusedVariables false
set_option linter.unusedSimpArgs false
set_option maxRecDepth 100000

theorem isB_nil (w : World) : IsB w (.slice none 0 0) [] := .inl ⟨rfl, none, 0, rfl⟩
theorem own_type {w : World} {base : Nat} {e t : TypeId} {sz n B : Nat} {v : Value} {xs : List Value} {c : Array Value} (h : w.ownsRow base e sz v n xs) (hB : w.heap[B]? = some (.cells c t (0, 0))) (hv : v.ownBlock = some B) (hne : t ≠ e) : False := by
  rcases h.2 with ⟨rfl, _⟩ | ⟨g, cap, cur, rfl, _, hg, _⟩
  · simp [Value.ownBlock] at hv
  · have : g = B := by simpa [Value.ownBlock] using hv
    subst this
    rw [hB] at hg
    cases hg
    exact hne rfl
end Go.Proofs.Ytnjhnlohjhdcpab

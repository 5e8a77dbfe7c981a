/-
  OpDecodes: the walk.
-/
import Derived.Test.YtindhkjcifghhabRh
import Derived.Test.YtindhkjcifghhabLnd
import Derived.Test.YtindhkjcifghhabPe
namespace Go.Proofs.Ytindhkjcifghhab
open Go.RowKit
set_option linter.unusedVariables false
set_option linter.unusedSimpArgs false
set_option maxRecDepth 100000

/-- What Decode tells: its error, the instructions. -/
def decE (xs : List Int) : Int := match decD xs with
  | .error f => f
  | .ok _ => 0
def decL (xs : List Int) : List IN := match decD xs with
  | .error _ => []
  | .ok ys => ys
theorem allD_len : ∀ (n : Nat) {xs : List Int} {ys : List IN}, allD n xs = .ok ys → ys.length ≤ n
  | 0, xs, ys, h => by
    unfold allD at h
    split at h
    · cases h; simp
    · cases h
  | n + 1, xs, ys, h => by
    rw [allD_succ] at h
    split at h
    · cases h; simp
    · cases h1 : oneDI xs with
      | error e => rw [h1] at h; cases h
      | ok p =>
        obtain ⟨y, r⟩ := p
        rw [h1] at h
        dsimp only at h
        cases h2 : allD n r with
        | error e => rw [h2] at h; cases h
        | ok zs =>
          rw [h2] at h
          cases h
          have := allD_len n h2
          simp only [List.length_cons]
          omega
theorem decD_len {xs : List Int} {ys : List IN} (h : decD xs = .ok ys) : ys.length ≤ 4096 := by
  unfold decD at h
  split at h
  · cases h
  · exact allD_len 4096 h
theorem decL_len (xs : List Int) : (decL xs).length ≤ 4096 := by
  unfold decL
  cases h : decD xs with
  | error f => simp
  | ok ys => exact decD_len h
theorem DecR.out {xs : List Int} {w w' : World} {e : Ending} (h : DecR xs w e w') : ∃ v', e = .returned (.tuple #[v', .int .i64 (decE xs)]) ∧ RowI w' v' (decL xs) ∧ (∀ q, v'.ownBlock = some q → w.heap.size ≤ q) ∧ (∀ y ∈ decL xs, y.Ok) ∧ Kept (fun _ => False) w w' := by
  obtain ⟨hk, h⟩ := h
  unfold decE decL
  cases hd : decD xs with
  | error f =>
    rw [hd] at h
    exact ⟨_, h, .inl ⟨rfl, none, 0, rfl⟩, fun q hq => by simp [Value.ownBlock] at hq, fun y hy => by simp at hy, hk⟩
  | ok ys =>
    rw [hd] at h
    obtain ⟨⟨v', h1, h2⟩, h3⟩ := h
    exact ⟨v', h1, rowI_own h2, fun q hq => (h2.lt q hq).1, h3, hk⟩

end Go.Proofs.Ytindhkjcifghhab

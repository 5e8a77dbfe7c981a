/-
  The byte order of paths: rank, by contract.
-/
import Derived.Test.YtmkfjdfpcjkmnaaMem
namespace Go.Proofs.Ytmkfjdfpcjkmnaa
open Go.RowKit
set_option linter.unusedVariables false
set_option linter.unusedSimpArgs false

/-- The rank of a byte. -/
def rankOf (c : Int) : Int := if c = 47 then -1 else c

set_option maxRecDepth 100000 in
set_option maxHeartbeats 1000000 in
theorem rank_any (c : Int) (hc : 0 ≤ c ∧ c < 256) (w : World) :
    Calls Try.prog 77 #[.int .u8 c] w fun e w' => e = .returned (.int .i64 (rankOf c)) ∧ w' = w := by
  go_enter Try.func77, Try.ntmps77
  by_cases h : c = 47
  · subst h
    go_wp2
    go_ret
    exact ⟨rfl, rfl⟩
  · have hne : (c == 47) = false := by simpa using h
    go_wp2
    go_ret
    exact ⟨by rw [rankOf, if_neg h]; rfl, rfl⟩
end Go.Proofs.Ytmkfjdfpcjkmnaa

/-
  PathMatches: the walk.
-/
import Derived.Test.YthloacakomahaaaRmatch
import Derived.Test.YthloacakomahaaaMfull
import Derived.Test.YthloacakomahaaaKnown
namespace Go.Proofs.Ythloacakomahaaa
open Go.RowKit
set_option linter.unusedVariables false
set_option linter.unusedSimpArgs false

set_option maxRecDepth 100000 in
set_option maxHeartbeats 2000000 in
theorem matches_walk (HR : HighRunes) (s t : ByteArray) (hs : s.size ≤ 9223372036854775807) (ht : t.size ≤ 9223372036854775807) (w : World) (hc : Cell w) :
    Calls Try.prog 6 #[.string s, .string t] w fun e w' => e = .returned (.bool true) ∧ Kept (fun _ => False) w w' := by
  have HK := hid_of known_any
  have HM : Hid (∀ W, Kept (fun _ => False) w W → Calls Try.prog 28 #[.string s, .string t] W fun e w' => e = .returned (.tuple #[.bool (matchOf s.data.toList t.data.toList).1, .int .i64 (matchOf s.data.toList t.data.toList).2]) ∧ Kept (fun _ => False) W w') :=
    fun W hW => match_fully HR (cell_below hc (hW.below (B := w.heap.size) (Nat.le_refl _) (fun _ h => h.elim))) s t
  have HRM := hid_of (rmatch_any s t hs ht)
  generalize (matchOf s.data.toList t.data.toList).1 = b at *
  generalize (matchOf s.data.toList t.data.toList).2 = n at *
  go_enter Try.func6, Try.ntmps6
  go_wp2_with fail
  refine (HK.out _).mono ?_
  rintro e w1 ⟨rfl, hk⟩
  have K1 := hid_of hk
  clear hk HK
  go_wp2_with fail
  refine (HM.out _ K1.out).mono ?_
  rintro e w2 ⟨rfl, hk⟩
  have K2 := hid_of (K1.out.trans hk)
  clear hk HM
  go_wp2_with fail
  refine (HRM.out _).mono ?_
  rintro e w3 ⟨rfl, hk⟩
  have K3 := hid_of (K2.out.trans hk)
  clear hk HRM
  go_wp2
  go_ret
  exact ⟨by first | rfl | (refine congrArg Ending.returned ?_; simp), K3.out⟩
end Go.Proofs.Ythloacakomahaaa

/-
  PathCleans: the walk.
-/
import Derived.Test.YthloacakomahaaaKnown
import Derived.Test.YthloacakomahaaaPclean
import Derived.Test.YthloacakomahaaaAnyc
namespace Go.Proofs.Ythloacakomahaaa
open Go.RowKit
set_option linter.unusedVariables false
set_option linter.unusedSimpArgs false

theorem clean_full (HR : HighRunes) (s : ByteArray) (w : World) :
    Calls Try.prog 10 #[.string s] w fun e w' => e = .returned (.tuple #[.string ⟨(cleanOf s.data.toList).1.toArray⟩, .int .i64 (cleanOf s.data.toList).2]) ∧ Kept (fun _ => False) w w' :=
  clean_any (P := fun _ => True) (fun x _ W => isname_full HR x W) s (fun _ _ => trivial) w
theorem isclean_full (HR : HighRunes) (s : ByteArray) (w : World) :
    Calls Try.prog 14 #[.string s] w fun e w' => e = .returned (.bool (isClean s.data.toList)) ∧ Kept (fun _ => False) w w' :=
  isclean_any (P := fun _ => True) (fun x _ W => isname_full HR x W) s (fun _ _ => trivial) w

set_option maxRecDepth 100000 in
set_option maxHeartbeats 2000000 in
theorem cleans_walk (HR : HighRunes) (s : ByteArray) (hs : s.size ≤ 9223372036854775807) (w : World) :
    Calls Try.prog 3 #[.string s] w fun e w' => e = .returned (.bool true) ∧ Kept (fun _ => False) w w' := by
  have HK := hid_of known_any
  by_cases h1 : 16777216 < s.size
  · go_enter Try.func3, Try.ntmps3
    go_wp2_with fail
    refine (HK.out _).mono ?_
    rintro e w1 ⟨rfl, hk⟩
    have K1 := hid_of hk
    clear hk HK
    go_wp2
    go_ret
    exact ⟨rfl, K1.out⟩
  have A1 := hid_of (clean_full HR s)
  have A2 := hid_of (rclean_any s)
  have A3 : Hid (∀ w, Calls Try.prog 12 #[.string s] w fun e w' => e = .returned (.bool (isName s.data.toList)) ∧ Kept (fun _ => False) w w') := fun w => isname_full HR s.data.toList w
  have A4 := hid_of (rname_any s (by omega))
  have A5 := hid_of (isclean_full HR s)
  have A6 := hid_of (risclean_any s (by omega))
  rw [← isClean_iff] at A6
  generalize (cleanOf s.data.toList).1 = c1 at *
  generalize (cleanOf s.data.toList).2 = c2 at *
  generalize isName s.data.toList = b1 at *
  generalize isClean s.data.toList = b2 at *
  go_enter Try.func3, Try.ntmps3
  go_wp2_with fail
  refine (HK.out _).mono ?_
  rintro e w1 ⟨rfl, hk⟩
  have K1 := hid_of hk
  clear hk HK
  go_wp2_with fail
  refine (A1.out _).mono ?_
  rintro e w2 ⟨rfl, hk⟩
  have K2 := hid_of (K1.out.trans hk)
  clear hk
  go_wp2_with fail
  refine (A2.out _).mono ?_
  rintro e w3 ⟨rfl, hk⟩
  have K3 := hid_of (K2.out.trans hk)
  clear hk
  go_wp2_with fail
  refine (A3.out _).mono ?_
  rintro e w4 ⟨rfl, hk⟩
  have K4 := hid_of (K3.out.trans hk)
  clear hk
  go_wp2_with fail
  refine (A4.out _).mono ?_
  rintro e w5 ⟨rfl, rfl⟩
  go_wp2_with fail
  refine (A5.out _).mono ?_
  rintro e w6 ⟨rfl, hk⟩
  have K6 := hid_of (K4.out.trans hk)
  clear hk
  go_wp2_with fail
  refine (A6.out _).mono ?_
  rintro e w7 ⟨rfl, hk⟩
  have K7 := hid_of (K6.out.trans hk)
  clear hk
  go_wp2
  go_ret
  exact ⟨rfl, K7.out⟩
end Go.Proofs.Ythloacakomahaaa

/-
  PathParts: the walk.
-/
import Derived.Test.YthloacakomahaaaSplit
import Derived.Test.YthloacakomahaaaRsplit
import Derived.Test.YthloacakomahaaaLists
namespace Go.Proofs.Ythloacakomahaaa
open Go.RowKit
set_option linter.unusedVariables false
set_option linter.unusedSimpArgs false

set_option maxRecDepth 100000 in
set_option maxHeartbeats 2000000 in
theorem parts_walk (HR : HighRunes) (s t : ByteArray) (hs : s.size ≤ 9223372036854775807) (ht : t.size ≤ 9223372036854775807) (w : World) :
    Calls Try.prog 4 #[.string s, .string t] w fun e w' => e = .returned (.bool true) ∧ Kept (fun _ => False) w w' := by
  have HK := hid_of known_any
  by_cases h1 : 16777216 < s.size
  · go_enter Try.func4, Try.ntmps4
    go_wp2_with fail
    refine (HK.out _).mono ?_
    rintro e w1 ⟨rfl, hk⟩
    have K1 := hid_of hk
    clear hk HK
    go_wp2
    go_ret
    exact ⟨rfl, K1.out⟩
  have la : (partsOf s.data.toList).length ≤ 1099511627776 := by
    have h1 := parts_len s.data.toList
    have h2 : s.data.toList.length = s.size := by simp
    omega
  have A1 := hid_of (split_any HR s (by omega))
  have A2 := hid_of (rsplit_any s (by omega))
  have A3 := hid_of (join_call HR s t (by omega) ht)
  have A4 := hid_of (rjoin_call s t (by omega) ht)
  have A5 := hid_of (lists_any s (by omega))
  have A6 := hid_of (rparts_any s (by omega))
  have A7 := hid_of (depth_any s (by omega))
  rw [depth_parts] at A7
  generalize partsOf s.data.toList = A at *
  have SM : Hid (∀ (v1 v2 : Value) (B1 B2 : Nat) (w : World), w.ownsRow B1 9 1 v1 A.length (texts A) → w.ownsRow B2 9 1 v2 A.length (texts A) → Calls Try.prog 21 #[v1, v2] w fun e w' => e = .returned (.bool true) ∧ Kept (fun _ => False) w w') := fun v1 v2 B1 B2 w h1 h2 =>
    (same_any A A v1 v2 B1 B2 w h1 h2 la la).mono (fun e w' h => ⟨by rw [h.1]; simp, by obtain ⟨q, hq⟩ := h.2; rw [hq]; exact kept_drewN (Kept.refl _ _) _⟩)
  generalize (splitOf s.data.toList).1 = c1 at *
  generalize (splitOf s.data.toList).2.1 = c2 at *
  generalize (splitOf s.data.toList).2.2 = c3 at *
  generalize (joinOf s.data.toList t.data.toList).1 = d1 at *
  generalize (joinOf s.data.toList t.data.toList).2 = d2 at *
  go_enter Try.func4, Try.ntmps4
  go_wp2_with fail
  refine (HK.out _).mono ?_
  rintro e w1 ⟨rfl, hk⟩
  have K1 := hid_of hk
  clear hk HK
  go_wp2_with fail
  refine (A1.out _).mono ?_
  rintro e w2 ⟨rfl, hk⟩
  have K2 := hid_of (K1.out.trans hk)
  clear hk
  go_wp2_with fail
  refine (A2.out _).mono ?_
  rintro e w3 ⟨rfl, hk⟩
  have K3 := hid_of (K2.out.trans hk)
  clear hk
  go_wp2_with fail
  refine (A3.out _).mono ?_
  rintro e w4 ⟨rfl, hk⟩
  have K4 := hid_of (K3.out.trans hk)
  clear hk
  go_wp2_with fail
  refine (A4.out _).mono ?_
  rintro e w5 ⟨rfl, hk⟩
  have K5 := hid_of (K4.out.trans hk)
  clear hk
  go_wp2_with fail
  refine (A5.out _).mono ?_
  rintro e w6 ⟨v1, rfl, ho1, hk⟩
  have K6 := hid_of (K5.out.trans hk)
  have O1 := hid_of ho1
  clear hk ho1
  go_wp2_with fail
  refine (A6.out _).mono ?_
  rintro e w7 ⟨v2, rfl, ho2, hk⟩
  have K7 := hid_of (K6.out.trans hk)
  have O2 := hid_of ho2
  have O1' := hid_of (hk.ownsRow O1.out (fun g _ h => h))
  clear hk ho2
  go_wp2_with fail
  refine (SM.out _ _ _ _ _ O1'.out O2.out).mono ?_
  rintro e w8 ⟨rfl, hk⟩
  have K8 := hid_of (K7.out.trans hk)
  clear hk O1 O2 O1' SM
  go_wp2_with fail
  refine (A7.out _).mono ?_
  rintro e w9 ⟨rfl, rfl⟩
  clear A7
  go_wp2_with fail
  refine (A6.out _).mono ?_
  rintro e w10 ⟨v3, rfl, ho3, hk⟩
  have K10 := hid_of (K8.out.trans hk)
  obtain ⟨a, cap, rfl, _, _, _⟩ := own_slice ho3
  clear hk ho3
  go_wp2
  go_ret
  exact ⟨by first | rfl | (refine congrArg Ending.returned ?_; simp), K10.out⟩
end Go.Proofs.Ythloacakomahaaa

/-
  PathOrders: the walk.
-/
import Derived.Test.YthloacakomahaaaKnown
namespace Go.Proofs.Ythloacakomahaaa
open Go.RowKit
set_option linter.unusedVariables false
set_option linter.unusedSimpArgs false

set_option maxRecDepth 100000 in
set_option maxHeartbeats 1000000 in
theorem orders_walk (a b : ByteArray) (ha : a.size ≤ 9223372036854775807) (hb : b.size ≤ 9223372036854775807) (w : World) :
    Calls Try.prog 5 #[.string a, .string b] w fun e w' => e = .returned (.bool true) ∧ Kept (fun _ => False) w w' := by
  have HK := hid_of known_any
  by_cases h1 : 16777216 < a.size
  · go_enter Try.func5, Try.ntmps5
    go_wp2_with fail
    refine (HK.out _).mono ?_
    rintro e w1 ⟨rfl, hk⟩
    have K1 := hid_of hk
    clear hk HK
    go_wp2
    go_ret
    exact ⟨rfl, K1.out⟩
  by_cases h2 : 16777216 < b.size
  · go_enter Try.func5, Try.ntmps5
    go_wp2_with fail
    refine (HK.out _).mono ?_
    rintro e w1 ⟨rfl, hk⟩
    have K1 := hid_of hk
    clear hk HK
    go_wp2
    go_ret
    exact ⟨rfl, K1.out⟩
  have L1 := hid_of (less_any a b (by omega) (by omega))
  have L2 := hid_of (less_any b a (by omega) (by omega))
  have R1 := hid_of (rless_any a b (by omega) (by omega))
  have R2 := hid_of (rless_any b a (by omega) (by omega))
  have U1 := hid_of (under_any a b)
  have U2 := hid_of (under_any b a)
  have V1 := hid_of (runder_any a b (by omega) (by omega))
  have V2 := hid_of (runder_any b a (by omega) (by omega))
  rw [ltP_parts] at L1 L2
  rw [under_parts] at U1 U2
  generalize ltParts (partsOf a.data.toList) (partsOf b.data.toList) = u1 at *
  generalize ltParts (partsOf b.data.toList) (partsOf a.data.toList) = u2 at *
  generalize (partsOf a.data.toList).isPrefixOf (partsOf b.data.toList) = u3 at *
  generalize (partsOf b.data.toList).isPrefixOf (partsOf a.data.toList) = u4 at *
  go_enter Try.func5, Try.ntmps5
  go_wp2_with fail
  refine (HK.out _).mono ?_
  rintro e w1 ⟨rfl, hk⟩
  have K1 := hid_of hk
  clear hk HK
  go_wp2_with fail
  refine (L1.out _).mono ?_
  rintro e w2 ⟨rfl, q, rfl⟩
  clear L1
  go_wp2_with fail
  refine (R1.out _).mono ?_
  rintro e w3 ⟨rfl, hk⟩
  have K2 := hid_of ((kept_drewN K1.out _).trans hk)
  clear hk K1 R1
  go_wp2_with fail
  refine (L2.out _).mono ?_
  rintro e w4 ⟨rfl, q2, rfl⟩
  clear L2
  go_wp2_with fail
  refine (R2.out _).mono ?_
  rintro e w5 ⟨rfl, hk⟩
  have K3 := hid_of ((kept_drewN K2.out _).trans hk)
  clear hk K2 R2
  go_wp2_with fail
  refine (U1.out _).mono ?_
  rintro e w6 ⟨rfl, rfl⟩
  clear U1
  go_wp2_with fail
  refine (V1.out _).mono ?_
  rintro e w7 ⟨rfl, hk⟩
  have K4 := hid_of (K3.out.trans hk)
  clear hk K3 V1
  go_wp2_with fail
  refine (U2.out _).mono ?_
  rintro e w8 ⟨rfl, rfl⟩
  clear U2
  go_wp2_with fail
  refine (V2.out _).mono ?_
  rintro e w9 ⟨rfl, hk⟩
  have K5 := hid_of (K4.out.trans hk)
  clear hk K4 V2
  go_wp2
  go_ret
  exact ⟨rfl, K5.out⟩
end Go.Proofs.Ythloacakomahaaa

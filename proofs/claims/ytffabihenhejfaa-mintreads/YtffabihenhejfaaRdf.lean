/-
  A form of more than one byte, read.
-/
import Derived.Test.YtffabihenhejfaaRd
import Derived.Laws.BitsAllLaws
import Derived.Laws.Bits64
namespace Go.Proofs.Ytffabihenhejfaa
open Go.RowKit
set_option linter.unusedVariables false

theorem or_step (q : Int) (h0 : 0 ≤ q) (h1 : q < 18446744073709551616) : bits .or .u64 (IntKind.u64.wrap (q / 256 * 256)) (q % 256) = q := by
  obtain ⟨n, rfl⟩ := Int.eq_ofNat_of_zero_le h0
  rw [IntKind.wrap_u64, Int.emod_eq_of_lt (by omega) (by omega), u64_or _ _ (by omega) (by omega) (by omega) (by omega)]
  rw [show ((n : Int) / 256 * 256).toNat = (n / 256) <<< 8 by rw [Nat.shiftLeft_eq]; omega, show ((n : Int) % 256).toNat = n % 256 by omega]
  rw [← Nat.shiftLeft_add_eq_or_of_lt (by omega), Nat.shiftLeft_eq]
  omega

set_option maxRecDepth 100000 in
set_option maxHeartbeats 2000000 in
/-- A form of more bytes. -/
theorem rdform_big (r g : Nat) (v : Value) (u : Int) (K : Nat) (rest : List Int) (w : World) (f : Int) (hr : Rd w r v true f) (hx : IsR w g v ((247 + (K : Int)) :: (Mth.be K u ++ rest))) (hgr : g ≠ r) (h0 : 247 < u) (h1 : u < 18446744073709551616) (hK : Mth.sz u = K) :
    Calls Try.prog 62 #[.pointer (some ⟨r, 0, none⟩)] w fun e w' => e = .returned (.int .u64 u) ∧ After w w' r g f rest := by
  obtain ⟨q0, q1, q2, _, _, _, hl⟩ := hr.cells
  have hK8 : K ≤ 8 := by rw [← hK]; exact Mth.sz_le u
  have hK1 : 1 ≤ K := by have := Mth.sz_cases u; omega
  have ht := hid_of (take_ok r g 1 v _ w f hr hx hgr (by simp))
  have HSZ := hid_of hK
  clear hr hx hK
  have hKI : (K : Int) ≤ 8 := by omega
  have hKI1 : (1 : Int) ≤ (K : Int) := by omega
  go_enter Try.func62, Try.ntmps62
  go_wp2_with fail
  refine ht.out.mono ?_
  rintro e w1 ⟨⟨v1, rfl, hb, hbg, _⟩, haf⟩
  obtain ⟨b, o, c, rfl, hc⟩ : ∃ b o c, v1 = .slice (some ⟨b, o, none⟩) 1 c ∧ w1.cell? ⟨b, o, none⟩ = some (.int .u8 (247 + (K : Int))) := by
    rcases hb with ⟨h, _⟩ | ⟨b, o, c, rfl, hc⟩
    · cases h
    · exact ⟨b, o, c, rfl, hc 0 (by simp)⟩
  obtain ⟨v2, hr2, hx2, hk2⟩ := haf
  have hx2' : IsR w1 g v2 (Mth.be K u ++ rest) := hx2
  have ht2 := take_ok r g K v2 (Mth.be K u ++ rest) w1 f hr2 hx2' hgr (by simp [Mth.be_length])
  rw [List.take_left' (Mth.be_length K u), List.drop_left' (Mth.be_length K u)] at ht2
  have HT2 := hid_of ht2
  have HK2 := hid_of hk2
  clear ht hb hbg hr2 hx2 hx2' hk2 ht2
  go_wp2_with fail
  rw [show (247 + (K : Int) - 247) = (K : Int) from by omega]
  refine HT2.out.mono ?_
  rintro e w3 ⟨⟨v3, rfl, hb3, hbg3, _⟩, haf3⟩
  have HA3 : Hid (After w w3 r g f rest) := by
    obtain ⟨v4, h4, h5, h6⟩ := haf3
    exact ⟨v4, h4, h5, HK2.out.trans h6⟩
  have hlb := Mth.be_length K u
  obtain ⟨b3, o3, c3, rfl, hc3⟩ : ∃ b o c, v3 = .slice (some ⟨b, o, none⟩) K c ∧ ∀ i, i < K → w3.cell? ⟨b, o + i, none⟩ = some (.int .u8 ((u / (256 : Int) ^ (K - 1 - i)) % 256)) := by
    rcases hb3 with ⟨h, _⟩ | ⟨b, o, c, rfl, hc⟩
    · rw [h] at hlb; simp at hlb; omega
    · rw [hlb] at hc ⊢
      refine ⟨b, o, c, rfl, fun i hi => ?_⟩
      rw [hc i hi, List.getD, Mth.be_get K u i hi]
      rfl
  have HC3 := hid_of hc3
  clear HT2 HK2 hb3 hbg3 haf3 hc3 hc hlb
  go_wp2
  go_loop [5, 28] (fun a i => ∃ j : Nat, j ≤ K ∧ i = .int .i64 j ∧ a = .int .u64 (u / (256 : Int) ^ (K - j))) (fun _ i => K - (intOf i).toNat)
  case atStart =>
    refine ⟨0, Nat.zero_le _, rfl, ?_⟩
    have := Mth.sz_spec u h1
    rw [HSZ.out] at this
    rw [Nat.sub_zero, Int.ediv_eq_zero_of_lt (by omega) this]
  case round =>
    obtain ⟨j, hj, rfl, rfl⟩ := hrel
    by_cases hlt : j < K
    · have hcell := HC3.out j hlt
      have hjI : (j : Int) < (K : Int) := by omega
      have hd := div_le u (K - 1 - j) (by omega)
      have E : bits .or .u64 (IntKind.u64.wrap (u / 256 ^ (K - j) * 256)) (u / 256 ^ (K - 1 - j) % 256) = u / 256 ^ (K - (j + 1)) := by
        rw [show K - j = (K - 1 - j) + 1 by omega, div_step, show K - (j + 1) = K - 1 - j by omega]
        exact or_step _ hd.1 (by omega)
      have HE := hid_of E
      clear hd E
      go_wp2
      refine ⟨⟨j + 1, by omega, by go_num, ?_⟩, ?_⟩
      · rw [HE.out]
      · simp [intOf]; omega
    · obtain rfl : j = K := by omega
      have e : u / (256 : Int) ^ (j - j) = u := by rw [Nat.sub_self]; simp
      rw [e]
      have hs := size_any u w3 (by omega) h1
      rw [HSZ.out] at hs
      have HS := hid_of hs
      have hd1 : decide (u ≤ 247) = false := by simp; omega
      clear hs e hlt hj
      go_wp2_with fail
      refine HS.out.mono ?_
      rintro e w4 ⟨rfl, rfl⟩
      go_wp2
      go_ret
      exact ⟨rfl, HA3.out⟩

/-- A number's form, read. -/
theorem rdform (r g : Nat) (v : Value) (u : Int) (rest : List Int) (w : World) (f : Int) (hr : Rd w r v true f) (hx : IsR w g v (Mth.form u ++ rest)) (hgr : g ≠ r) (h0 : 0 ≤ u) (h1 : u < 18446744073709551616) :
    Calls Try.prog 62 #[.pointer (some ⟨r, 0, none⟩)] w fun e w' => e = .returned (.int .u64 u) ∧ After w w' r g f rest := by
  unfold Mth.form at hx
  by_cases h : u ≤ 247
  · rw [if_pos h] at hx
    exact rdform_small r g v u rest w f hr hx hgr h0 h
  · rw [if_neg h] at hx
    exact rdform_big r g v u (Mth.sz u) rest w f hr hx hgr (by omega) h1 rfl

theorem hmf (fn : Fn) (first cap : Array Value) (w : World) : (Instr.makeFunc fn first cap).run Try.prog w = .ok (.func fn first cap) w := rfl
end Go.Proofs.Ytffabihenhejfaa

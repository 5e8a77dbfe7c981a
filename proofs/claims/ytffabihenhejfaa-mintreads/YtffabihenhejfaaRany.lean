/-
  The Reader's calls over any bytes: each tells what stands there, or throws.
-/
import Derived.Test.YtffabihenhejfaaFail
namespace Go.Proofs.Ytffabihenhejfaa
open Go.RowKit
set_option linter.unusedVariables false

set_option maxRecDepth 100000 in
set_option maxHeartbeats 2000000 in
/-- form, whose bytes are no form. -/
theorem form_wrong (r g : Nat) (v : Value) (u : Int) (K : Nat) (rest : List Int) (w : World) (f : Int) (hr : Rd w r v true f) (hx : IsR w g v ((247 + (K : Int)) :: (Mth.be K u ++ rest))) (hgr : g ≠ r) (hK1 : 1 ≤ K) (hK8 : K ≤ 8) (h0 : 0 ≤ u) (hu : u < (256 : Int) ^ K) (hbad : u ≤ 247 ∨ Mth.sz u ≠ K) :
    Calls Try.prog 62 #[.pointer (some ⟨r, 0, none⟩)] w (Threw r w) := by
  obtain ⟨q0, q1, q2, _, _, _, hl⟩ := hr.cells
  have h1 : u < 18446744073709551616 := Int.lt_of_lt_of_le hu (pow256_le K hK8)
  have ht := hid_of (take_ok r g 1 v _ w f hr hx hgr (by simp))
  have HU := hid_of hu
  have HBAD := hid_of hbad
  clear hr hx hu hbad
  have hKI : (K : Int) ≤ 8 := by omega
  have hKI1 : (1 : Int) ≤ (K : Int) := by omega
  go_enter Try.func62, Try.ntmps62
  go_wp2_with fail
  refine ht.out.mono ?_
  rintro e w1 ⟨⟨v1, rfl, hb, hbg, _⟩, haf⟩
  obtain ⟨b, o, c, rfl, hc⟩ : ∃ b o c, v1 = .slice (some ⟨b, o, none⟩) 1 c ∧ w1.cell? ⟨b, o, none⟩ = some (.int .u8 (247 + (K : Int))) := by
    rcases hb with ⟨h, _⟩ | ⟨b, o, c, rfl, hc⟩
    · cases h
    · exact ⟨b, o, c, rfl, hc 0 (by simp)⟩
  obtain ⟨v2, hr2, hx2, hk2⟩ := haf
  have hx2' : IsR w1 g v2 (Mth.be K u ++ rest) := hx2
  have ht2 := take_ok r g K v2 (Mth.be K u ++ rest) w1 f hr2 hx2' hgr (by simp [Mth.be_length])
  rw [List.take_left' (Mth.be_length K u), List.drop_left' (Mth.be_length K u)] at ht2
  have HT2 := hid_of ht2
  have HK2 := hid_of hk2
  clear ht hb hbg hr2 hx2 hx2' hk2 ht2
  go_wp2_with fail
  rw [show (247 + (K : Int) - 247) = (K : Int) from by omega]
  refine HT2.out.mono ?_
  rintro e w3 ⟨⟨v3, rfl, hb3, hbg3, _⟩, haf3⟩
  have HF : Hid (Calls Try.prog 46 #[.pointer (some ⟨r, 0, none⟩), .int .i64 12] w3 (Threw r w)) := by
    obtain ⟨v4, h4, h5, h6⟩ := haf3
    refine (fail_any r v4 f 12 w3 h4 (by decide)).mono ?_
    intro e w' h
    exact h.behind (HK2.out.trans h6)
  have hlb := Mth.be_length K u
  obtain ⟨b3, o3, c3, rfl, hc3⟩ : ∃ b o c, v3 = .slice (some ⟨b, o, none⟩) K c ∧ ∀ i, i < K → w3.cell? ⟨b, o + i, none⟩ = some (.int .u8 ((u / (256 : Int) ^ (K - 1 - i)) % 256)) := by
    rcases hb3 with ⟨h, _⟩ | ⟨b, o, c, rfl, hc⟩
    · rw [h] at hlb; simp at hlb; omega
    · rw [hlb] at hc ⊢
      refine ⟨b, o, c, rfl, fun i hi => ?_⟩
      rw [hc i hi, List.getD, Mth.be_get K u i hi]
      rfl
  have HC3 := hid_of hc3
  clear HT2 HK2 hb3 hbg3 haf3 hc3 hc hlb
  go_wp2
  go_loop [5, 28] (fun a i => ∃ j : Nat, j ≤ K ∧ i = .int .i64 j ∧ a = .int .u64 (u / (256 : Int) ^ (K - j))) (fun _ i => K - (intOf i).toNat)
  case atStart =>
    refine ⟨0, Nat.zero_le _, rfl, ?_⟩
    rw [Nat.sub_zero, Int.ediv_eq_zero_of_lt (by omega) HU.out]
  case round =>
    obtain ⟨j, hj, rfl, rfl⟩ := hrel
    by_cases hlt : j < K
    · have hcell := HC3.out j hlt
      have hjI : (j : Int) < (K : Int) := by omega
      have hd := div_le u (K - 1 - j) (by omega)
      have E : bits .or .u64 (IntKind.u64.wrap (u / 256 ^ (K - j) * 256)) (u / 256 ^ (K - 1 - j) % 256) = u / 256 ^ (K - (j + 1)) := by
        rw [show K - j = (K - 1 - j) + 1 by omega, div_step, show K - (j + 1) = K - 1 - j by omega]
        exact or_step _ hd.1 (by omega)
      have HE := hid_of E
      clear hd E
      go_wp2
      refine ⟨⟨j + 1, by omega, by go_num, ?_⟩, ?_⟩
      · rw [HE.out]
      · simp [intOf]; omega
    · obtain rfl : j = K := by omega
      have e : u / (256 : Int) ^ (j - j) = u := by rw [Nat.sub_self]; simp
      rw [e]
      by_cases h247 : u ≤ 247
      · have hd1 : decide (u ≤ 247) = true := by simp; omega
        clear e hlt hj
        go_wp2_with fail
        refine HF.out.mono ?_
        rintro e w4 ⟨flt, h0, rfl, h2, h3⟩
        exact ⟨rfl, flt, h0, rfl, h2, h3⟩
      · have hs := size_any u w3 (by omega) h1
        have hne : Mth.sz u ≠ j := by rcases HBAD.out with h | h; exact absurd h h247; exact h
        have hneI : ((Mth.sz u : Int) == (j : Int)) = false := by simp; omega
        have hneN : ((Mth.sz u : Int) != (j : Int)) = true := by simp; omega
        have HS := hid_of hs
        have hd1 : decide (u ≤ 247) = false := by simp; omega
        have hsz8 : (Mth.sz u : Int) ≤ 8 := by have := Mth.sz_le u; omega
        generalize Mth.sz u = z at *
        clear hs e hlt hj hne
        go_wp2_with fail
        refine HS.out.mono ?_
        rintro e w4 ⟨rfl, rfl⟩
        go_wp2_with fail
        refine HF.out.mono ?_
        rintro e w5 ⟨flt, h0, rfl, h2, h3⟩
        exact ⟨rfl, flt, h0, rfl, h2, h3⟩

/-- form over any bytes. -/
theorem form_any (r g : Nat) (v : Value) (xs : List Int) (w : World) (f : Int) (hr : Rd w r v true f) (hx : IsR w g v xs) (hgr : g ≠ r) (hb : ∀ x ∈ xs, 0 ≤ x ∧ x ≤ 255) (h : ¬ IsForm xs) :
    Calls Try.prog 62 #[.pointer (some ⟨r, 0, none⟩)] w (Threw r w) := by
  rcases no_form xs hb h with rfl | ⟨K, t, rfl, h1, h8, h2 | ⟨u, rest, rfl, h3, h4, h5⟩⟩
  · exact form_none r g v w f hr hx
  · exact form_cut r g K v t w f hr hx hgr h1 h8 h2
  · exact form_wrong r g v u K rest w f hr hx hgr h1 h8 h3 h4 h5
end Go.Proofs.Ytffabihenhejfaa

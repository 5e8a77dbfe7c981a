/-
  PathLine: the walk.
-/
import Derived.Test.YthloacakomahaaaKnown
import Derived.Test.YthloacakomahaaaLists
import Derived.Test.YthloacakomahaaaPline
namespace Go.Proofs.Ythloacakomahaaa
open Go.RowKit
set_option linter.unusedVariables false
set_option linter.unusedSimpArgs false

theorem less_kept (a b : ByteArray) (ha : a.size ≤ 16777216) (hb : b.size ≤ 16777216) (w : World) :
    Calls Try.prog 24 #[.string a, .string b] w fun e w' => e = .returned (.bool (ltParts (partsOf a.data.toList) (partsOf b.data.toList))) ∧ Kept (fun _ => False) w w' :=
  (less_any a b (by omega) (by omega) w).mono (fun e w' h => ⟨by rw [h.1, ltP_parts], by obtain ⟨q, hq⟩ := h.2; rw [hq]; exact kept_drewN (Kept.refl _ _) _⟩)
theorem under_kept (a b : ByteArray) (w : World) :
    Calls Try.prog 26 #[.string a, .string b] w fun e w' => e = .returned (.bool ((partsOf a.data.toList).isPrefixOf (partsOf b.data.toList))) ∧ Kept (fun _ => False) w w' :=
  (under_any a b w).mono (fun e w' h => ⟨by rw [h.1, under_parts], by rw [h.2]; exact Kept.refl _ _⟩)

set_option maxRecDepth 100000 in
set_option maxHeartbeats 4000000 in
theorem line_walk (a b c : ByteArray) (ha : a.size ≤ 9223372036854775807) (hb : b.size ≤ 9223372036854775807) (hc : c.size ≤ 9223372036854775807) (w : World) :
    Calls Try.prog 8 #[.string a, .string b, .string c] w fun e w' => e = .returned (.bool true) ∧ Kept (fun _ => False) w w' := by
  have HK := hid_of known_any
  by_cases ha : 16777216 < a.size
  · go_enter Try.func8, Try.ntmps8
    go_wp2_with fail
    refine (HK.out _).mono ?_
    rintro e w1 ⟨rfl, hk⟩
    have K1 := hid_of hk
    clear hk HK
    go_wp2
    go_ret
    exact ⟨rfl, K1.out⟩
  by_cases hb : 16777216 < b.size
  · go_enter Try.func8, Try.ntmps8
    go_wp2_with fail
    refine (HK.out _).mono ?_
    rintro e w1 ⟨rfl, hk⟩
    have K1 := hid_of hk
    clear hk HK
    go_wp2
    go_ret
    exact ⟨rfl, K1.out⟩
  by_cases hc : 16777216 < c.size
  · go_enter Try.func8, Try.ntmps8
    go_wp2_with fail
    refine (HK.out _).mono ?_
    rintro e w1 ⟨rfl, hk⟩
    have K1 := hid_of hk
    clear hk HK
    go_wp2
    go_ret
    exact ⟨rfl, K1.out⟩
  have la : (partsOf a.data.toList).length ≤ 1099511627776 := by
    have h1 := parts_len a.data.toList
    have h2 : a.data.toList.length = a.size := by simp
    omega
  have lb : (partsOf b.data.toList).length ≤ 1099511627776 := by
    have h1 := parts_len b.data.toList
    have h2 : b.data.toList.length = b.size := by simp
    omega
  have NA := hid_of (lists_any a (by omega))
  have NB := hid_of (lists_any b (by omega))
  have AB := hid_of (less_kept a b (by omega) (by omega))
  have BA := hid_of (less_kept b a (by omega) (by omega))
  have BC := hid_of (less_kept b c (by omega) (by omega))
  have AC := hid_of (less_kept a c (by omega) (by omega))
  have UAB := hid_of (under_kept a b)
  have UAC := hid_of (under_kept a c)
  generalize partsOf a.data.toList = A at *
  generalize partsOf b.data.toList = B at *
  generalize partsOf c.data.toList = C at *
  have SM : Hid (∀ (v1 v2 : Value) (B1 B2 : Nat) (w : World), w.ownsRow B1 9 1 v1 A.length (texts A) → w.ownsRow B2 9 1 v2 B.length (texts B) → Calls Try.prog 21 #[v1, v2] w fun e w' => e = .returned (.bool (A == B)) ∧ Kept (fun _ => False) w w') := fun v1 v2 B1 B2 w h1 h2 =>
    (same_any A B v1 v2 B1 B2 w h1 h2 la lb).mono (fun e w' h => ⟨h.1, by obtain ⟨q, hq⟩ := h.2; rw [hq]; exact kept_drewN (Kept.refl _ _) _⟩)
  have f1 := lp_irr A
  have f2 := lp_tri A B
  have f3 := lp_trans A B C
  have f4 := lp_under A B
  have f5 := lp_between A B C
  have f6 : A = B → A.isPrefixOf B = true := fun e => by rw [e, List.isPrefixOf_iff_prefix]; exact List.prefix_rfl
  have f7 : (A == B) = true ↔ A = B := beq_iff_eq
  have g1 : (A == B) = true → ltParts A B = false ∧ ltParts B A = false ∧ A.isPrefixOf B = true := fun h => by
    have e := f7.1 h
    subst e
    exact ⟨f1, f1, f6 rfl⟩
  have g2 : (A == B) = false → (ltParts A B = true ∧ ltParts B A = false) ∨ (ltParts A B = false ∧ ltParts B A = true ∧ A.isPrefixOf B = false) := fun h => by
    have hn : A ≠ B := fun e => by rw [f7.2 e] at h; cases h
    rcases f2 with e | e | e
    · exact absurd e hn
    · exact .inl e
    · refine .inr ⟨e.1, e.2, ?_⟩
      rw [Bool.eq_false_iff]
      intro hp
      rw [f4 hp hn] at e
      cases e.1
  have g3 : ltParts A B = true → ltParts B C = true → ltParts A C = true ∧ (A.isPrefixOf C = true → A.isPrefixOf B = true) := fun h1 h2 => ⟨f3 h1 h2, fun h => f5 h h1 h2⟩
  clear f1 f2 f3 f4 f5 f6 f7
  generalize (A == B) = like at *
  generalize ltParts A B = ab at *
  generalize ltParts B A = ba at *
  generalize ltParts B C = bc at *
  generalize ltParts A C = ac at *
  generalize A.isPrefixOf B = uab at *
  generalize A.isPrefixOf C = uac at *
  cases like with
  | true =>
    obtain ⟨rfl, rfl, rfl⟩ := g1 rfl
    clear g1 g2 g3
    cases uac with
    | false =>
      go_enter Try.func8, Try.ntmps8
      go_wp2_with fail
      refine (HK.out _).mono ?_
      rintro e w1 ⟨rfl, hk⟩
      have K1 := hid_of (hk)
      clear hk
      go_wp2_with fail
      refine (NA.out _).mono ?_
      rintro e w2 ⟨v1, rfl, ho1, hk⟩
      have K2 := hid_of (K1.out.trans hk)
      have O1 := hid_of ho1
      clear hk ho1
      go_wp2_with fail
      refine (NB.out _).mono ?_
      rintro e w3 ⟨v2, rfl, ho2, hk⟩
      have K3 := hid_of (K2.out.trans hk)
      have O2 := hid_of ho2
      have O1' := hid_of (hk.ownsRow O1.out (fun g _ h => h))
      clear hk ho2
      go_wp2_with fail
      refine (SM.out _ _ _ _ _ O1'.out O2.out).mono ?_
      rintro e w4 ⟨rfl, hk⟩
      have K4 := hid_of (K3.out.trans hk)
      clear hk O1 O2 O1'
      go_wp2_with fail
      refine (AB.out _).mono ?_
      rintro e w5 ⟨rfl, hk⟩
      have K5 := hid_of (K4.out.trans hk)
      clear hk
      go_wp2_with fail
      refine (BA.out _).mono ?_
      rintro e w6 ⟨rfl, hk⟩
      have K6 := hid_of (K5.out.trans hk)
      clear hk
      go_wp2_with fail
      refine (UAB.out _).mono ?_
      rintro e w7 ⟨rfl, hk⟩
      have K7 := hid_of (K6.out.trans hk)
      clear hk
      go_wp2_with fail
      refine (UAB.out _).mono ?_
      rintro e w8 ⟨rfl, hk⟩
      have K8 := hid_of (K7.out.trans hk)
      clear hk
      go_wp2_with fail
      refine (UAC.out _).mono ?_
      rintro e w9 ⟨rfl, hk⟩
      have K9 := hid_of (K8.out.trans hk)
      clear hk
      go_wp2
      go_ret
      exact ⟨rfl, K9.out⟩
    | true =>
      go_enter Try.func8, Try.ntmps8
      go_wp2_with fail
      refine (HK.out _).mono ?_
      rintro e w1 ⟨rfl, hk⟩
      have K1 := hid_of (hk)
      clear hk
      go_wp2_with fail
      refine (NA.out _).mono ?_
      rintro e w2 ⟨v1, rfl, ho1, hk⟩
      have K2 := hid_of (K1.out.trans hk)
      have O1 := hid_of ho1
      clear hk ho1
      go_wp2_with fail
      refine (NB.out _).mono ?_
      rintro e w3 ⟨v2, rfl, ho2, hk⟩
      have K3 := hid_of (K2.out.trans hk)
      have O2 := hid_of ho2
      have O1' := hid_of (hk.ownsRow O1.out (fun g _ h => h))
      clear hk ho2
      go_wp2_with fail
      refine (SM.out _ _ _ _ _ O1'.out O2.out).mono ?_
      rintro e w4 ⟨rfl, hk⟩
      have K4 := hid_of (K3.out.trans hk)
      clear hk O1 O2 O1'
      go_wp2_with fail
      refine (AB.out _).mono ?_
      rintro e w5 ⟨rfl, hk⟩
      have K5 := hid_of (K4.out.trans hk)
      clear hk
      go_wp2_with fail
      refine (BA.out _).mono ?_
      rintro e w6 ⟨rfl, hk⟩
      have K6 := hid_of (K5.out.trans hk)
      clear hk
      go_wp2_with fail
      refine (UAB.out _).mono ?_
      rintro e w7 ⟨rfl, hk⟩
      have K7 := hid_of (K6.out.trans hk)
      clear hk
      go_wp2_with fail
      refine (UAB.out _).mono ?_
      rintro e w8 ⟨rfl, hk⟩
      have K8 := hid_of (K7.out.trans hk)
      clear hk
      go_wp2_with fail
      refine (UAC.out _).mono ?_
      rintro e w9 ⟨rfl, hk⟩
      have K9 := hid_of (K8.out.trans hk)
      clear hk
      go_wp2
      go_ret
      exact ⟨rfl, K9.out⟩
  | false =>
    rcases g2 rfl with ⟨rfl, rfl⟩ | ⟨rfl, rfl, rfl⟩
    · cases bc with
      | false =>
        clear g1 g2 g3
        cases uac with
        | false =>
          cases uab with
          | false =>
            go_enter Try.func8, Try.ntmps8
            go_wp2_with fail
            refine (HK.out _).mono ?_
            rintro e w1 ⟨rfl, hk⟩
            have K1 := hid_of (hk)
            clear hk
            go_wp2_with fail
            refine (NA.out _).mono ?_
            rintro e w2 ⟨v1, rfl, ho1, hk⟩
            have K2 := hid_of (K1.out.trans hk)
            have O1 := hid_of ho1
            clear hk ho1
            go_wp2_with fail
            refine (NB.out _).mono ?_
            rintro e w3 ⟨v2, rfl, ho2, hk⟩
            have K3 := hid_of (K2.out.trans hk)
            have O2 := hid_of ho2
            have O1' := hid_of (hk.ownsRow O1.out (fun g _ h => h))
            clear hk ho2
            go_wp2_with fail
            refine (SM.out _ _ _ _ _ O1'.out O2.out).mono ?_
            rintro e w4 ⟨rfl, hk⟩
            have K4 := hid_of (K3.out.trans hk)
            clear hk O1 O2 O1'
            go_wp2_with fail
            refine (AB.out _).mono ?_
            rintro e w5 ⟨rfl, hk⟩
            have K5 := hid_of (K4.out.trans hk)
            clear hk
            go_wp2_with fail
            refine (BA.out _).mono ?_
            rintro e w6 ⟨rfl, hk⟩
            have K6 := hid_of (K5.out.trans hk)
            clear hk
            go_wp2_with fail
            refine (BC.out _).mono ?_
            rintro e w7 ⟨rfl, hk⟩
            have K7 := hid_of (K6.out.trans hk)
            clear hk
            go_wp2_with fail
            refine (UAB.out _).mono ?_
            rintro e w8 ⟨rfl, hk⟩
            have K8 := hid_of (K7.out.trans hk)
            clear hk
            go_wp2_with fail
            refine (UAC.out _).mono ?_
            rintro e w9 ⟨rfl, hk⟩
            have K9 := hid_of (K8.out.trans hk)
            clear hk
            go_wp2
            go_ret
            exact ⟨rfl, K9.out⟩
          | true =>
            go_enter Try.func8, Try.ntmps8
            go_wp2_with fail
            refine (HK.out _).mono ?_
            rintro e w1 ⟨rfl, hk⟩
            have K1 := hid_of (hk)
            clear hk
            go_wp2_with fail
            refine (NA.out _).mono ?_
            rintro e w2 ⟨v1, rfl, ho1, hk⟩
            have K2 := hid_of (K1.out.trans hk)
            have O1 := hid_of ho1
            clear hk ho1
            go_wp2_with fail
            refine (NB.out _).mono ?_
            rintro e w3 ⟨v2, rfl, ho2, hk⟩
            have K3 := hid_of (K2.out.trans hk)
            have O2 := hid_of ho2
            have O1' := hid_of (hk.ownsRow O1.out (fun g _ h => h))
            clear hk ho2
            go_wp2_with fail
            refine (SM.out _ _ _ _ _ O1'.out O2.out).mono ?_
            rintro e w4 ⟨rfl, hk⟩
            have K4 := hid_of (K3.out.trans hk)
            clear hk O1 O2 O1'
            go_wp2_with fail
            refine (AB.out _).mono ?_
            rintro e w5 ⟨rfl, hk⟩
            have K5 := hid_of (K4.out.trans hk)
            clear hk
            go_wp2_with fail
            refine (BA.out _).mono ?_
            rintro e w6 ⟨rfl, hk⟩
            have K6 := hid_of (K5.out.trans hk)
            clear hk
            go_wp2_with fail
            refine (BC.out _).mono ?_
            rintro e w7 ⟨rfl, hk⟩
            have K7 := hid_of (K6.out.trans hk)
            clear hk
            go_wp2_with fail
            refine (UAB.out _).mono ?_
            rintro e w8 ⟨rfl, hk⟩
            have K8 := hid_of (K7.out.trans hk)
            clear hk
            go_wp2_with fail
            refine (UAC.out _).mono ?_
            rintro e w9 ⟨rfl, hk⟩
            have K9 := hid_of (K8.out.trans hk)
            clear hk
            go_wp2
            go_ret
            exact ⟨rfl, K9.out⟩
        | true =>
          cases uab with
          | false =>
            go_enter Try.func8, Try.ntmps8
            go_wp2_with fail
            refine (HK.out _).mono ?_
            rintro e w1 ⟨rfl, hk⟩
            have K1 := hid_of (hk)
            clear hk
            go_wp2_with fail
            refine (NA.out _).mono ?_
            rintro e w2 ⟨v1, rfl, ho1, hk⟩
            have K2 := hid_of (K1.out.trans hk)
            have O1 := hid_of ho1
            clear hk ho1
            go_wp2_with fail
            refine (NB.out _).mono ?_
            rintro e w3 ⟨v2, rfl, ho2, hk⟩
            have K3 := hid_of (K2.out.trans hk)
            have O2 := hid_of ho2
            have O1' := hid_of (hk.ownsRow O1.out (fun g _ h => h))
            clear hk ho2
            go_wp2_with fail
            refine (SM.out _ _ _ _ _ O1'.out O2.out).mono ?_
            rintro e w4 ⟨rfl, hk⟩
            have K4 := hid_of (K3.out.trans hk)
            clear hk O1 O2 O1'
            go_wp2_with fail
            refine (AB.out _).mono ?_
            rintro e w5 ⟨rfl, hk⟩
            have K5 := hid_of (K4.out.trans hk)
            clear hk
            go_wp2_with fail
            refine (BA.out _).mono ?_
            rintro e w6 ⟨rfl, hk⟩
            have K6 := hid_of (K5.out.trans hk)
            clear hk
            go_wp2_with fail
            refine (BC.out _).mono ?_
            rintro e w7 ⟨rfl, hk⟩
            have K7 := hid_of (K6.out.trans hk)
            clear hk
            go_wp2_with fail
            refine (UAB.out _).mono ?_
            rintro e w8 ⟨rfl, hk⟩
            have K8 := hid_of (K7.out.trans hk)
            clear hk
            go_wp2_with fail
            refine (UAC.out _).mono ?_
            rintro e w9 ⟨rfl, hk⟩
            have K9 := hid_of (K8.out.trans hk)
            clear hk
            go_wp2_with fail
            refine (BC.out _).mono ?_
            rintro e w10 ⟨rfl, hk⟩
            have K10 := hid_of (K9.out.trans hk)
            clear hk
            go_wp2
            go_ret
            exact ⟨rfl, K10.out⟩
          | true =>
            go_enter Try.func8, Try.ntmps8
            go_wp2_with fail
            refine (HK.out _).mono ?_
            rintro e w1 ⟨rfl, hk⟩
            have K1 := hid_of (hk)
            clear hk
            go_wp2_with fail
            refine (NA.out _).mono ?_
            rintro e w2 ⟨v1, rfl, ho1, hk⟩
            have K2 := hid_of (K1.out.trans hk)
            have O1 := hid_of ho1
            clear hk ho1
            go_wp2_with fail
            refine (NB.out _).mono ?_
            rintro e w3 ⟨v2, rfl, ho2, hk⟩
            have K3 := hid_of (K2.out.trans hk)
            have O2 := hid_of ho2
            have O1' := hid_of (hk.ownsRow O1.out (fun g _ h => h))
            clear hk ho2
            go_wp2_with fail
            refine (SM.out _ _ _ _ _ O1'.out O2.out).mono ?_
            rintro e w4 ⟨rfl, hk⟩
            have K4 := hid_of (K3.out.trans hk)
            clear hk O1 O2 O1'
            go_wp2_with fail
            refine (AB.out _).mono ?_
            rintro e w5 ⟨rfl, hk⟩
            have K5 := hid_of (K4.out.trans hk)
            clear hk
            go_wp2_with fail
            refine (BA.out _).mono ?_
            rintro e w6 ⟨rfl, hk⟩
            have K6 := hid_of (K5.out.trans hk)
            clear hk
            go_wp2_with fail
            refine (BC.out _).mono ?_
            rintro e w7 ⟨rfl, hk⟩
            have K7 := hid_of (K6.out.trans hk)
            clear hk
            go_wp2_with fail
            refine (UAB.out _).mono ?_
            rintro e w8 ⟨rfl, hk⟩
            have K8 := hid_of (K7.out.trans hk)
            clear hk
            go_wp2_with fail
            refine (UAC.out _).mono ?_
            rintro e w9 ⟨rfl, hk⟩
            have K9 := hid_of (K8.out.trans hk)
            clear hk
            go_wp2_with fail
            refine (BC.out _).mono ?_
            rintro e w10 ⟨rfl, hk⟩
            have K10 := hid_of (K9.out.trans hk)
            clear hk
            go_wp2
            go_ret
            exact ⟨rfl, K10.out⟩
      | true =>
        obtain ⟨rfl, g4⟩ := g3 rfl rfl
        cases uac with
        | false =>
          clear g1 g2 g3 g4
          cases uab with
          | false =>
            go_enter Try.func8, Try.ntmps8
            go_wp2_with fail
            refine (HK.out _).mono ?_
            rintro e w1 ⟨rfl, hk⟩
            have K1 := hid_of (hk)
            clear hk
            go_wp2_with fail
            refine (NA.out _).mono ?_
            rintro e w2 ⟨v1, rfl, ho1, hk⟩
            have K2 := hid_of (K1.out.trans hk)
            have O1 := hid_of ho1
            clear hk ho1
            go_wp2_with fail
            refine (NB.out _).mono ?_
            rintro e w3 ⟨v2, rfl, ho2, hk⟩
            have K3 := hid_of (K2.out.trans hk)
            have O2 := hid_of ho2
            have O1' := hid_of (hk.ownsRow O1.out (fun g _ h => h))
            clear hk ho2
            go_wp2_with fail
            refine (SM.out _ _ _ _ _ O1'.out O2.out).mono ?_
            rintro e w4 ⟨rfl, hk⟩
            have K4 := hid_of (K3.out.trans hk)
            clear hk O1 O2 O1'
            go_wp2_with fail
            refine (AB.out _).mono ?_
            rintro e w5 ⟨rfl, hk⟩
            have K5 := hid_of (K4.out.trans hk)
            clear hk
            go_wp2_with fail
            refine (BA.out _).mono ?_
            rintro e w6 ⟨rfl, hk⟩
            have K6 := hid_of (K5.out.trans hk)
            clear hk
            go_wp2_with fail
            refine (BC.out _).mono ?_
            rintro e w7 ⟨rfl, hk⟩
            have K7 := hid_of (K6.out.trans hk)
            clear hk
            go_wp2_with fail
            refine (AC.out _).mono ?_
            rintro e w8 ⟨rfl, hk⟩
            have K8 := hid_of (K7.out.trans hk)
            clear hk
            go_wp2_with fail
            refine (UAB.out _).mono ?_
            rintro e w9 ⟨rfl, hk⟩
            have K9 := hid_of (K8.out.trans hk)
            clear hk
            go_wp2_with fail
            refine (UAC.out _).mono ?_
            rintro e w10 ⟨rfl, hk⟩
            have K10 := hid_of (K9.out.trans hk)
            clear hk
            go_wp2
            go_ret
            exact ⟨rfl, K10.out⟩
          | true =>
            go_enter Try.func8, Try.ntmps8
            go_wp2_with fail
            refine (HK.out _).mono ?_
            rintro e w1 ⟨rfl, hk⟩
            have K1 := hid_of (hk)
            clear hk
            go_wp2_with fail
            refine (NA.out _).mono ?_
            rintro e w2 ⟨v1, rfl, ho1, hk⟩
            have K2 := hid_of (K1.out.trans hk)
            have O1 := hid_of ho1
            clear hk ho1
            go_wp2_with fail
            refine (NB.out _).mono ?_
            rintro e w3 ⟨v2, rfl, ho2, hk⟩
            have K3 := hid_of (K2.out.trans hk)
            have O2 := hid_of ho2
            have O1' := hid_of (hk.ownsRow O1.out (fun g _ h => h))
            clear hk ho2
            go_wp2_with fail
            refine (SM.out _ _ _ _ _ O1'.out O2.out).mono ?_
            rintro e w4 ⟨rfl, hk⟩
            have K4 := hid_of (K3.out.trans hk)
            clear hk O1 O2 O1'
            go_wp2_with fail
            refine (AB.out _).mono ?_
            rintro e w5 ⟨rfl, hk⟩
            have K5 := hid_of (K4.out.trans hk)
            clear hk
            go_wp2_with fail
            refine (BA.out _).mono ?_
            rintro e w6 ⟨rfl, hk⟩
            have K6 := hid_of (K5.out.trans hk)
            clear hk
            go_wp2_with fail
            refine (BC.out _).mono ?_
            rintro e w7 ⟨rfl, hk⟩
            have K7 := hid_of (K6.out.trans hk)
            clear hk
            go_wp2_with fail
            refine (AC.out _).mono ?_
            rintro e w8 ⟨rfl, hk⟩
            have K8 := hid_of (K7.out.trans hk)
            clear hk
            go_wp2_with fail
            refine (UAB.out _).mono ?_
            rintro e w9 ⟨rfl, hk⟩
            have K9 := hid_of (K8.out.trans hk)
            clear hk
            go_wp2_with fail
            refine (UAC.out _).mono ?_
            rintro e w10 ⟨rfl, hk⟩
            have K10 := hid_of (K9.out.trans hk)
            clear hk
            go_wp2
            go_ret
            exact ⟨rfl, K10.out⟩
        | true =>
          obtain rfl := g4 rfl
          clear g1 g2 g3 g4
          go_enter Try.func8, Try.ntmps8
          go_wp2_with fail
          refine (HK.out _).mono ?_
          rintro e w1 ⟨rfl, hk⟩
          have K1 := hid_of (hk)
          clear hk
          go_wp2_with fail
          refine (NA.out _).mono ?_
          rintro e w2 ⟨v1, rfl, ho1, hk⟩
          have K2 := hid_of (K1.out.trans hk)
          have O1 := hid_of ho1
          clear hk ho1
          go_wp2_with fail
          refine (NB.out _).mono ?_
          rintro e w3 ⟨v2, rfl, ho2, hk⟩
          have K3 := hid_of (K2.out.trans hk)
          have O2 := hid_of ho2
          have O1' := hid_of (hk.ownsRow O1.out (fun g _ h => h))
          clear hk ho2
          go_wp2_with fail
          refine (SM.out _ _ _ _ _ O1'.out O2.out).mono ?_
          rintro e w4 ⟨rfl, hk⟩
          have K4 := hid_of (K3.out.trans hk)
          clear hk O1 O2 O1'
          go_wp2_with fail
          refine (AB.out _).mono ?_
          rintro e w5 ⟨rfl, hk⟩
          have K5 := hid_of (K4.out.trans hk)
          clear hk
          go_wp2_with fail
          refine (BA.out _).mono ?_
          rintro e w6 ⟨rfl, hk⟩
          have K6 := hid_of (K5.out.trans hk)
          clear hk
          go_wp2_with fail
          refine (BC.out _).mono ?_
          rintro e w7 ⟨rfl, hk⟩
          have K7 := hid_of (K6.out.trans hk)
          clear hk
          go_wp2_with fail
          refine (AC.out _).mono ?_
          rintro e w8 ⟨rfl, hk⟩
          have K8 := hid_of (K7.out.trans hk)
          clear hk
          go_wp2_with fail
          refine (UAB.out _).mono ?_
          rintro e w9 ⟨rfl, hk⟩
          have K9 := hid_of (K8.out.trans hk)
          clear hk
          go_wp2_with fail
          refine (UAC.out _).mono ?_
          rintro e w10 ⟨rfl, hk⟩
          have K10 := hid_of (K9.out.trans hk)
          clear hk
          go_wp2_with fail
          refine (BC.out _).mono ?_
          rintro e w11 ⟨rfl, hk⟩
          have K11 := hid_of (K10.out.trans hk)
          clear hk
          go_wp2_with fail
          refine (UAB.out _).mono ?_
          rintro e w12 ⟨rfl, hk⟩
          have K12 := hid_of (K11.out.trans hk)
          clear hk
          go_wp2
          go_ret
          exact ⟨rfl, K12.out⟩
    · clear g1 g2 g3
      cases uac with
      | false =>
        go_enter Try.func8, Try.ntmps8
        go_wp2_with fail
        refine (HK.out _).mono ?_
        rintro e w1 ⟨rfl, hk⟩
        have K1 := hid_of (hk)
        clear hk
        go_wp2_with fail
        refine (NA.out _).mono ?_
        rintro e w2 ⟨v1, rfl, ho1, hk⟩
        have K2 := hid_of (K1.out.trans hk)
        have O1 := hid_of ho1
        clear hk ho1
        go_wp2_with fail
        refine (NB.out _).mono ?_
        rintro e w3 ⟨v2, rfl, ho2, hk⟩
        have K3 := hid_of (K2.out.trans hk)
        have O2 := hid_of ho2
        have O1' := hid_of (hk.ownsRow O1.out (fun g _ h => h))
        clear hk ho2
        go_wp2_with fail
        refine (SM.out _ _ _ _ _ O1'.out O2.out).mono ?_
        rintro e w4 ⟨rfl, hk⟩
        have K4 := hid_of (K3.out.trans hk)
        clear hk O1 O2 O1'
        go_wp2_with fail
        refine (AB.out _).mono ?_
        rintro e w5 ⟨rfl, hk⟩
        have K5 := hid_of (K4.out.trans hk)
        clear hk
        go_wp2_with fail
        refine (BA.out _).mono ?_
        rintro e w6 ⟨rfl, hk⟩
        have K6 := hid_of (K5.out.trans hk)
        clear hk
        go_wp2_with fail
        refine (UAB.out _).mono ?_
        rintro e w7 ⟨rfl, hk⟩
        have K7 := hid_of (K6.out.trans hk)
        clear hk
        go_wp2_with fail
        refine (UAC.out _).mono ?_
        rintro e w8 ⟨rfl, hk⟩
        have K8 := hid_of (K7.out.trans hk)
        clear hk
        go_wp2
        go_ret
        exact ⟨rfl, K8.out⟩
      | true =>
        go_enter Try.func8, Try.ntmps8
        go_wp2_with fail
        refine (HK.out _).mono ?_
        rintro e w1 ⟨rfl, hk⟩
        have K1 := hid_of (hk)
        clear hk
        go_wp2_with fail
        refine (NA.out _).mono ?_
        rintro e w2 ⟨v1, rfl, ho1, hk⟩
        have K2 := hid_of (K1.out.trans hk)
        have O1 := hid_of ho1
        clear hk ho1
        go_wp2_with fail
        refine (NB.out _).mono ?_
        rintro e w3 ⟨v2, rfl, ho2, hk⟩
        have K3 := hid_of (K2.out.trans hk)
        have O2 := hid_of ho2
        have O1' := hid_of (hk.ownsRow O1.out (fun g _ h => h))
        clear hk ho2
        go_wp2_with fail
        refine (SM.out _ _ _ _ _ O1'.out O2.out).mono ?_
        rintro e w4 ⟨rfl, hk⟩
        have K4 := hid_of (K3.out.trans hk)
        clear hk O1 O2 O1'
        go_wp2_with fail
        refine (AB.out _).mono ?_
        rintro e w5 ⟨rfl, hk⟩
        have K5 := hid_of (K4.out.trans hk)
        clear hk
        go_wp2_with fail
        refine (BA.out _).mono ?_
        rintro e w6 ⟨rfl, hk⟩
        have K6 := hid_of (K5.out.trans hk)
        clear hk
        go_wp2_with fail
        refine (UAB.out _).mono ?_
        rintro e w7 ⟨rfl, hk⟩
        have K7 := hid_of (K6.out.trans hk)
        clear hk
        go_wp2_with fail
        refine (UAC.out _).mono ?_
        rintro e w8 ⟨rfl, hk⟩
        have K8 := hid_of (K7.out.trans hk)
        clear hk
        go_wp2
        go_ret
        exact ⟨rfl, K8.out⟩
end Go.Proofs.Ythloacakomahaaa

/-
  Text, Most over any bytes, with the fault that is met.
-/
import Derived.Test.YtffabihenhejfaaLeadx
namespace Go.Proofs.Ytffabihenhejfaa
open Go.RowKit
set_option linter.unusedVariables false

theorem numD_split {xs : List Int} {u : Int} {rest : List Int} (hb : ∀ x ∈ xs, 0 ≤ x ∧ x ≤ 255) (h : numD xs = .ok (u, rest)) : xs = Mth.form u ++ rest ∧ 0 ≤ u ∧ u ≤ 9223372036854775807 := by
  rcases formD_cases xs hb with ⟨u', rest', h', he, h0, h1⟩ | h' | h'
  · have := numD_ok h
    rw [h'] at this
    obtain ⟨h2, h3⟩ := this
    cases h2
    exact ⟨he, h0, h3⟩
  · have := (numD_ok h).1; rw [h'.1] at this; cases this
  · have := (numD_ok h).1; rw [h'.1] at this; cases this

set_option maxRecDepth 100000 in
set_option maxHeartbeats 1000000 in
/-- Text, over any bytes. -/
theorem text_x (r g : Nat) (v : Value) (xs : List Int) (w : World) (f : Int) (hr : Rd w r v true f) (hx : IsR w g v xs) (hgr : g ≠ r) (hl : xs.length ≤ 140737488355328) (hb : ∀ x ∈ xs, 0 ≤ x ∧ x ≤ 255) :
    Calls Try.prog 45 #[.pointer (some ⟨r, 0, none⟩)] w (Outs (bytesD xs) r g f w fun ys e w' => e = .returned (.string (str ys))) := by
  have hnx := num_x r g v xs w f hr hx hgr hb
  unfold bytesD
  cases hd : numD xs with
  | error flt =>
    rw [hd] at hnx
    have HN := hid_of hnx
    clear hr hx hnx
    go_enter Try.func45, Try.ntmps45
    go_wp2_with fail
    refine HN.out.mono ?_
    rintro e w1 ⟨rfl, h2, h3⟩
    exact ⟨rfl, rfl, h2, h3⟩
  | ok p =>
    obtain ⟨u, rest⟩ := p
    obtain ⟨hxs, h0, h1⟩ := numD_split hb hd
    rw [hd] at hnx
    dsimp only
    unfold rawD
    rw [if_neg (by omega)]
    obtain ⟨n, rfl⟩ := Int.eq_ofNat_of_zero_le h0
    by_cases h : (rest.length : Int) < (n : Int)
    · rw [if_pos h]
      have HN := hid_of hnx
      clear hr hx hnx hd
      go_enter Try.func45, Try.ntmps45
      go_wp2_with fail
      refine HN.out.mono ?_
      rintro e w1 ⟨⟨rfl, _, _⟩, v1, a1, a2, a3⟩
      have HT := hid_of (take_bad_x r g n v1 rest w1 f a1 a2 (by omega) (by omega))
      have HK := hid_of a3
      clear HN a1 a2 a3 hb hxs
      go_wp2_with fail
      refine HT.out.mono ?_
      rintro e w2 h
      obtain ⟨rfl, h2, h3⟩ := ThrewF.behind h HK.out
      exact ⟨rfl, rfl, h2, h3⟩
    · rw [if_neg h]
      have hlt : (rest.take n).length = n := by rw [List.length_take]; omega
      have hxs' : xs = Mth.form ((rest.take n).length : Int) ++ (rest.take n ++ rest.drop n) := by rw [hlt, List.take_append_drop]; exact hxs
      rw [hxs'] at hx
      refine (rtext r g v (rest.take n) (rest.drop n) w f hr hx hgr (by rw [hlt]; rw [hxs, List.length_append] at hl; omega)).mono ?_
      rintro e w' ⟨rfl, ha⟩
      exact ⟨rfl, ha⟩

set_option maxRecDepth 100000 in
set_option maxHeartbeats 1000000 in
/-- Most, over any bytes. -/
theorem most_x (r g : Nat) (n : Int) (v : Value) (xs : List Int) (w : World) (f : Int) (hr : Rd w r v true f) (hx : IsR w g v xs) (hgr : g ≠ r) (hb : ∀ x ∈ xs, 0 ≤ x ∧ x ≤ 255) :
    Calls Try.prog 48 #[.pointer (some ⟨r, 0, none⟩), .int .i64 n] w (Outs (mostD n xs) r g f w fun u e w' => e = .returned (.int .i64 u) ∧ 0 ≤ u ∧ u ≤ 9223372036854775807) := by
  have hnx := num_x r g v xs w f hr hx hgr hb
  unfold mostD
  cases hd : numD xs with
  | error flt =>
    rw [hd] at hnx
    have HN := hid_of hnx
    clear hr hx hnx
    go_enter Try.func48, Try.ntmps48
    go_wp2_with fail
    refine HN.out.mono ?_
    rintro e w1 ⟨rfl, h2, h3⟩
    exact ⟨rfl, rfl, h2, h3⟩
  | ok p =>
    obtain ⟨u, rest⟩ := p
    rw [hd] at hnx
    have HN := hid_of hnx
    clear hr hx hnx hd
    dsimp only
    by_cases h : n < u
    · rw [if_pos h]
      go_enter Try.func48, Try.ntmps48
      go_wp2_with fail
      refine HN.out.mono ?_
      rintro e w1 ⟨⟨rfl, h0, h1⟩, v1, a1, a2, a3⟩
      have HF := hid_of (fail_x r v1 f 2 w1 a1 (by decide))
      have HK := hid_of a3
      clear HN a1 a2 a3 hb
      go_wp2_with fail
      refine HF.out.mono ?_
      rintro e w2 h
      obtain ⟨rfl, h2, h3⟩ := ThrewF.behind h HK.out
      exact ⟨rfl, rfl, h2, h3⟩
    · rw [if_neg h]
      have hle : u ≤ n := by omega
      go_enter Try.func48, Try.ntmps48
      go_wp2_with fail
      refine HN.out.mono ?_
      rintro e w1 ⟨⟨rfl, h0, h1⟩, ha⟩
      have HA := hid_of ha
      clear HN ha hb
      go_wp2
      go_ret
      exact ⟨⟨rfl, h0, h1⟩, HA.out⟩
end Go.Proofs.Ytffabihenhejfaa

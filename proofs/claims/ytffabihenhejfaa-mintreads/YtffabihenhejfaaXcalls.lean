/-
  Num, Int, Bool, Raw, Bytes, Text, Most over any bytes, with the fault that is met.
-/
import Derived.Test.YtffabihenhejfaaExact
namespace Go.Proofs.Ytffabihenhejfaa
open Go.RowKit
set_option linter.unusedVariables false

theorem numD_ok {xs : List Int} {u : Int} {rest : List Int} (h : numD xs = .ok (u, rest)) : formD xs = .ok (u, rest) ∧ u ≤ 9223372036854775807 := by
  unfold numD at h
  cases hf : formD xs with
  | error e => rw [hf] at h; cases h
  | ok p =>
    obtain ⟨u', rest'⟩ := p
    rw [hf] at h
    dsimp only at h
    by_cases h1 : u' ≤ 9223372036854775807
    · rw [if_pos h1] at h; cases h; exact ⟨rfl, h1⟩
    · rw [if_neg h1] at h; cases h

set_option maxRecDepth 100000 in
set_option maxHeartbeats 1000000 in
theorem num_throw_x (r : Nat) (flt : Int) (w w0 : World) (hF : Calls Try.prog 62 #[.pointer (some ⟨r, 0, none⟩)] w (ThrewF r flt w0)) : Calls Try.prog 41 #[.pointer (some ⟨r, 0, none⟩)] w (ThrewF r flt w0) := by
  have HF := hid_of hF
  clear hF
  go_enter Try.func41, Try.ntmps41
  go_wp2_with fail
  refine HF.out.mono ?_
  rintro e w1 ⟨rfl, h2, h3⟩
  exact ⟨rfl, rfl, h2, h3⟩

set_option maxRecDepth 100000 in
set_option maxHeartbeats 1000000 in
theorem num_big_x (r g : Nat) (v : Value) (u : Int) (rest : List Int) (w : World) (f : Int) (hr : Rd w r v true f) (hx : IsR w g v (Mth.form u ++ rest)) (hgr : g ≠ r) (h0 : 9223372036854775807 < u) (h1 : u < 18446744073709551616) :
    Calls Try.prog 41 #[.pointer (some ⟨r, 0, none⟩)] w (ThrewF r 12 w) := by
  have hf := hid_of (rdform r g v u rest w f hr hx hgr (by omega) (by omega))
  clear hr hx
  go_enter Try.func41, Try.ntmps41
  go_wp2_with fail
  refine hf.out.mono ?_
  rintro e w1 ⟨rfl, v1, a1, a2, a3⟩
  have HF := hid_of (fail_x r v1 f 12 w1 a1 (by decide))
  have HK := hid_of a3
  clear hf a1 a2 a3
  go_wp2_with fail
  refine HF.out.mono ?_
  rintro e w2 h
  obtain ⟨rfl, h2, h3⟩ := h.behind HK.out
  exact ⟨rfl, rfl, h2, h3⟩

/-- Num, over any bytes. -/
theorem num_x (r g : Nat) (v : Value) (xs : List Int) (w : World) (f : Int) (hr : Rd w r v true f) (hx : IsR w g v xs) (hgr : g ≠ r) (hb : ∀ x ∈ xs, 0 ≤ x ∧ x ≤ 255) :
    Calls Try.prog 41 #[.pointer (some ⟨r, 0, none⟩)] w (Outs (numD xs) r g f w fun u e w' => e = .returned (.int .i64 u) ∧ 0 ≤ u ∧ u ≤ 9223372036854775807) := by
  unfold numD
  have hfx := form_x r g v xs w f hr hx hgr hb
  rcases formD_cases xs hb with ⟨u, rest, h, he, h0, h1⟩ | h | h
  · rw [h]
    dsimp only
    subst he
    by_cases h2 : u ≤ 9223372036854775807
    · rw [if_pos h2]
      refine (rnum r g v u rest w f hr hx hgr h0 h2).mono ?_
      rintro e w' ⟨rfl, ha⟩
      exact ⟨⟨rfl, h0, h2⟩, ha⟩
    · rw [if_neg h2]
      exact num_big_x r g v u rest w f hr hx hgr (by omega) h1
  · rw [h.1] at hfx ⊢
    exact num_throw_x r 11 w w hfx
  · rw [h.1] at hfx ⊢
    exact num_throw_x r 12 w w hfx

set_option maxRecDepth 100000 in
set_option maxHeartbeats 1000000 in
theorem int_throw_x (r : Nat) (flt : Int) (w w0 : World) (hF : Calls Try.prog 62 #[.pointer (some ⟨r, 0, none⟩)] w (ThrewF r flt w0)) : Calls Try.prog 42 #[.pointer (some ⟨r, 0, none⟩)] w (ThrewF r flt w0) := by
  have HF := hid_of hF
  clear hF
  go_enter Try.func42, Try.ntmps42
  go_wp2_with fail
  refine HF.out.mono ?_
  rintro e w1 ⟨rfl, h2, h3⟩
  exact ⟨rfl, rfl, h2, h3⟩

/-- Int, over any bytes. -/
theorem int_x (r g : Nat) (v : Value) (xs : List Int) (w : World) (f : Int) (hr : Rd w r v true f) (hx : IsR w g v xs) (hgr : g ≠ r) (hb : ∀ x ∈ xs, 0 ≤ x ∧ x ≤ 255) :
    Calls Try.prog 42 #[.pointer (some ⟨r, 0, none⟩)] w (Outs (intD xs) r g f w fun n e w' => e = .returned (.int .i64 n) ∧ -9223372036854775808 ≤ n ∧ n < 9223372036854775808) := by
  unfold intD
  have hfx := form_x r g v xs w f hr hx hgr hb
  rcases formD_cases xs hb with ⟨u, rest, h, he, h0, h1⟩ | h | h
  · rw [h]
    dsimp only
    subst he
    obtain ⟨h2, h3, h4⟩ := fold_unfold u h0 h1
    refine (rint r g v (unfoldI u) rest w f hr (by rw [h4]; exact hx) hgr h2 h3).mono ?_
    rintro e w' ⟨rfl, ha⟩
    exact ⟨⟨rfl, h2, h3⟩, ha⟩
  · rw [h.1] at hfx ⊢
    exact int_throw_x r 11 w w hfx
  · rw [h.1] at hfx ⊢
    exact int_throw_x r 12 w w hfx

set_option maxRecDepth 100000 in
set_option maxHeartbeats 1000000 in
theorem bool_none_x (r g : Nat) (v : Value) (w : World) (f : Int) (hr : Rd w r v true f) (hx : IsR w g v []) :
    Calls Try.prog 43 #[.pointer (some ⟨r, 0, none⟩)] w (ThrewF r 11 w) := by
  have HF := hid_of (take_bad_x r g 1 v [] w f hr hx (by simp) (by decide))
  obtain ⟨q0, q1, q2, f0, f1, f2, hl⟩ := hr.cells
  clear hr hx
  go_enter Try.func43, Try.ntmps43
  go_wp2_with fail
  refine HF.out.mono ?_
  rintro e w1 ⟨rfl, h2, h3⟩
  exact ⟨rfl, rfl, h2, h3⟩

set_option maxRecDepth 100000 in
set_option maxHeartbeats 1000000 in
theorem bool_bad_x (r g : Nat) (v : Value) (x : Int) (rest : List Int) (w : World) (f : Int) (hr : Rd w r v true f) (hx : IsR w g v (x :: rest)) (hgr : g ≠ r) (h0 : 1 < x) (h1 : x ≤ 255) :
    Calls Try.prog 43 #[.pointer (some ⟨r, 0, none⟩)] w (ThrewF r 12 w) := by
  obtain ⟨q0, q1, q2, f0, f1, f2, hl⟩ := hr.cells
  have HT := hid_of (take_ok r g 1 v (x :: rest) w f hr hx hgr (by simp))
  clear hr hx
  go_enter Try.func43, Try.ntmps43
  go_wp2_with fail
  refine HT.out.mono ?_
  rintro e w1 ⟨⟨v1, rfl, hb, hbg, _⟩, haf⟩
  obtain ⟨b, o, c, rfl, hc⟩ : ∃ b o c, v1 = .slice (some ⟨b, o, none⟩) 1 c ∧ w1.cell? ⟨b, o, none⟩ = some (.int .u8 x) := by
    rcases hb with ⟨h, _⟩ | ⟨b, o, c, rfl, hc⟩
    · cases h
    · exact ⟨b, o, c, rfl, hc 0 (by simp)⟩
  obtain ⟨v2, hr2, hx2, hk2⟩ := haf
  have HF := hid_of (fail_x r v2 f 12 w1 hr2 (by decide))
  have HK := hid_of hk2
  clear HT hb hbg hr2 hx2 hk2
  go_wp2_with fail
  refine HF.out.mono ?_
  rintro e w2 h
  obtain ⟨rfl, h2, h3⟩ := h.behind HK.out
  exact ⟨rfl, rfl, h2, h3⟩

/-- Bool, over any bytes. -/
theorem bool_x (r g : Nat) (v : Value) (xs : List Int) (w : World) (f : Int) (hr : Rd w r v true f) (hx : IsR w g v xs) (hgr : g ≠ r) (hb : ∀ x ∈ xs, 0 ≤ x ∧ x ≤ 255) :
    Calls Try.prog 43 #[.pointer (some ⟨r, 0, none⟩)] w (Outs (boolD xs) r g f w fun x e w' => e = .returned (.bool (x == 1)) ∧ 0 ≤ x ∧ x ≤ 1) := by
  cases xs with
  | nil => exact bool_none_x r g v w f hr hx
  | cons x rest =>
    have hx1 := hb x List.mem_cons_self
    rw [show boolD (x :: rest) = if 1 < x then .error 12 else .ok (x, rest) from rfl]
    by_cases h1 : 1 < x
    · rw [if_pos h1]
      exact bool_bad_x r g v x rest w f hr hx hgr h1 hx1.2
    · rw [if_neg h1]
      refine (rbool r g v x rest w f hr hx hgr hx1.1 (by omega)).mono ?_
      rintro e w' ⟨rfl, ha⟩
      exact ⟨⟨rfl, hx1.1, by omega⟩, ha⟩

set_option maxRecDepth 100000 in
set_option maxHeartbeats 1000000 in
theorem raw_cut_x (r g n : Nat) (v : Value) (xs : List Int) (w : World) (f : Int) (hr : Rd w r v true f) (hx : IsR w g v xs) (hn : xs.length < n) (hn' : n ≤ 9223372036854775807) :
    Calls Try.prog 47 #[.pointer (some ⟨r, 0, none⟩), .int .i64 n] w (ThrewF r 11 w) := by
  have HF := hid_of (take_bad_x r g n v xs w f hr hx hn hn')
  obtain ⟨q0, q1, q2, f0, f1, f2, hl⟩ := hr.cells
  clear hr hx
  go_enter Try.func47, Try.ntmps47
  go_wp2_with fail
  refine HF.out.mono ?_
  rintro e w1 ⟨rfl, h2, h3⟩
  exact ⟨rfl, rfl, h2, h3⟩

set_option maxRecDepth 100000 in
set_option maxHeartbeats 1000000 in
theorem raw_neg_x (r : Nat) (n : Int) (v : Value) (w : World) (f : Int) (hr : Rd w r v true f) (hn : n < 0) :
    Calls Try.prog 47 #[.pointer (some ⟨r, 0, none⟩), .int .i64 n] w (ThrewF r 1 w) := by
  have HF := hid_of (fail_x r v f 1 w hr (by decide))
  obtain ⟨q0, q1, q2, f0, f1, f2, hl⟩ := hr.cells
  clear hr
  go_enter Try.func47, Try.ntmps47
  go_wp2_with fail
  refine HF.out.mono ?_
  rintro e w1 ⟨rfl, h2, h3⟩
  exact ⟨rfl, rfl, h2, h3⟩

/-- Raw, over any bytes. -/
theorem raw_x (r g : Nat) (n : Int) (v : Value) (xs : List Int) (w : World) (f : Int) (hr : Rd w r v true f) (hx : IsR w g v xs) (hgr : g ≠ r) (hg : g < w.heap.size) (hl : xs.length ≤ 140737488355328) (hn' : n ≤ 9223372036854775807) :
    Calls Try.prog 47 #[.pointer (some ⟨r, 0, none⟩), .int .i64 n] w (Outs (rawD n xs) r g f w fun ys e w' => ∃ v', e = .returned v' ∧ w'.ownsRow w.heap.size 5 1 v' ys.length (ys.map (Value.int .u8))) := by
  unfold rawD
  by_cases h0 : n < 0
  · rw [if_pos h0]
    exact raw_neg_x r n v w f hr h0
  · rw [if_neg h0]
    obtain ⟨m, rfl⟩ := Int.eq_ofNat_of_zero_le (by omega : 0 ≤ n)
    by_cases h : (xs.length : Int) < (m : Int)
    · rw [if_pos h]
      exact raw_cut_x r g m v xs w f hr hx (by omega) (by omega)
    · rw [if_neg h]
      refine (rraw r g m v xs w f hr hx hgr hg (by omega) (by omega)).mono ?_
      rintro e w' ⟨⟨v', rfl, ho⟩, ha⟩
      refine ⟨⟨v', rfl, ?_⟩, ha⟩
      rw [show (xs.take (m : Int).toNat).length = m from by rw [List.length_take]; simp; omega]
      exact ho

set_option maxRecDepth 100000 in
set_option maxHeartbeats 1000000 in
/-- Bytes, over any bytes. -/
theorem bytes_x (r g : Nat) (v : Value) (xs : List Int) (w : World) (f : Int) (hr : Rd w r v true f) (hx : IsR w g v xs) (hgr : g ≠ r) (hg : g < w.heap.size) (hl : xs.length ≤ 140737488355328) (hb : ∀ x ∈ xs, 0 ≤ x ∧ x ≤ 255) :
    Calls Try.prog 44 #[.pointer (some ⟨r, 0, none⟩)] w (Outs (bytesD xs) r g f w fun ys e w' => ∃ v', e = .returned v' ∧ w'.ownsRow w.heap.size 5 1 v' ys.length (ys.map (Value.int .u8))) := by
  have hnx := num_x r g v xs w f hr hx hgr hb
  have hle : ∀ u rest, numD xs = .ok (u, rest) → rest.length ≤ xs.length := fun u rest h => by
    rcases formD_cases xs hb with ⟨u', rest', h', he, _⟩ | h' | h'
    · have := (numD_ok h).1
      rw [h'] at this
      cases this
      rw [he, List.length_append]
      omega
    · have := (numD_ok h).1; rw [h'.1] at this; cases this
    · have := (numD_ok h).1; rw [h'.1] at this; cases this
  unfold bytesD
  cases hd : numD xs with
  | error flt =>
    rw [hd] at hnx
    have HN := hid_of hnx
    clear hr hx hnx
    go_enter Try.func44, Try.ntmps44
    go_wp2_with fail
    refine HN.out.mono ?_
    rintro e w1 ⟨rfl, h2, h3⟩
    exact ⟨rfl, rfl, h2, h3⟩
  | ok p =>
    obtain ⟨u, rest⟩ := p
    rw [hd] at hnx
    have hrl := hle u rest hd
    have HN := hid_of hnx
    clear hr hx hnx hle hd
    dsimp only
    obtain ⟨d, hd⟩ : ∃ d, d = rawD u rest := ⟨_, rfl⟩
    rw [← hd]
    have HD := hid_of hd
    clear hd
    go_enter Try.func44, Try.ntmps44
    go_wp2_with fail
    refine HN.out.mono ?_
    rintro e w1 ⟨⟨rfl, h0, h1⟩, v1, a1, a2, a3⟩
    have HR := hid_of (raw_x r g u v1 rest w1 f a1 a2 hgr (Nat.lt_of_lt_of_le hg a3.size) (by omega) h1)
    have HK := hid_of a3
    clear HN a1 a2 a3 hb
    go_wp2_with fail
    refine HR.out.mono ?_
    intro e w2 ho
    rw [← HD.out] at ho
    cases d with
    | error flt =>
      obtain ⟨rfl, h2, h3⟩ := ThrewF.behind ho HK.out
      exact ⟨rfl, rfl, h2, h3⟩
    | ok p =>
      obtain ⟨ys, rest'⟩ := p
      obtain ⟨⟨v', rfl, ho⟩, v2, b1, b2, b3⟩ := ho
      have HO := hid_of (own_less ho HK.out.size)
      have HA : Hid (After w w2 r g f rest') := ⟨v2, b1, b2, HK.out.trans b3⟩
      clear HR ho b1 b2 b3
      go_wp2
      go_ret
      exact ⟨⟨v', rfl, HO.out⟩, HA.out⟩
end Go.Proofs.Ytffabihenhejfaa

/-
  Num, Int, Bool, Raw, Bytes, Text over any bytes.
-/
import Derived.Test.YtffabihenhejfaaRany
namespace Go.Proofs.Ytffabihenhejfaa
open Go.RowKit
set_option linter.unusedVariables false

set_option maxRecDepth 100000 in
set_option maxHeartbeats 1000000 in
/-- Num, where form throws. -/
theorem num_throw (r : Nat) (w w0 : World) (hF : Calls Try.prog 62 #[.pointer (some ⟨r, 0, none⟩)] w (Threw r w0)) : Calls Try.prog 41 #[.pointer (some ⟨r, 0, none⟩)] w (Threw r w0) := by
  have HF := hid_of hF
  clear hF
  go_enter Try.func41, Try.ntmps41
  go_wp2_with fail
  refine HF.out.mono ?_
  rintro e w1 ⟨flt, h0, rfl, h2, h3⟩
  exact ⟨rfl, flt, h0, rfl, h2, h3⟩

set_option maxRecDepth 100000 in
set_option maxHeartbeats 1000000 in
/-- Num, of a number that no int holds. -/
theorem num_big (r g : Nat) (v : Value) (u : Int) (rest : List Int) (w : World) (f : Int) (hr : Rd w r v true f) (hx : IsR w g v (Mth.form u ++ rest)) (hgr : g ≠ r) (h0 : 9223372036854775807 < u) (h1 : u < 18446744073709551616) :
    Calls Try.prog 41 #[.pointer (some ⟨r, 0, none⟩)] w (Threw r w) := by
  have hf := hid_of (rdform r g v u rest w f hr hx hgr (by omega) (by omega))
  clear hr hx
  go_enter Try.func41, Try.ntmps41
  go_wp2_with fail
  refine hf.out.mono ?_
  rintro e w1 ⟨rfl, v1, a1, a2, a3⟩
  have HF := hid_of (fail_any r v1 f 12 w1 a1 (by decide))
  have HK := hid_of a3
  clear hf a1 a2 a3
  go_wp2_with fail
  refine HF.out.mono ?_
  rintro e w2 h
  obtain ⟨flt, h0, rfl, h2, h3⟩ := h.behind HK.out
  exact ⟨rfl, flt, h0, rfl, h2, h3⟩

/-- Num over any bytes. -/
theorem num_any (r g : Nat) (v : Value) (xs : List Int) (w : World) (f : Int) (hr : Rd w r v true f) (hx : IsR w g v xs) (hgr : g ≠ r) (hb : ∀ x ∈ xs, 0 ≤ x ∧ x ≤ 255) :
    Calls Try.prog 41 #[.pointer (some ⟨r, 0, none⟩)] w fun e w' => (∃ (u : Int) (rest : List Int), xs = Mth.form u ++ rest ∧ 0 ≤ u ∧ u ≤ 9223372036854775807 ∧ e = .returned (.int .i64 u) ∧ After w w' r g f rest) ∨ Threw r w e w' := by
  by_cases h : IsForm xs
  · obtain ⟨u, rest, rfl, h0, h1⟩ := h
    by_cases h2 : u ≤ 9223372036854775807
    · refine (rnum r g v u rest w f hr hx hgr h0 h2).mono ?_
      rintro e w' ⟨rfl, ha⟩
      exact .inl ⟨u, rest, rfl, h0, h2, rfl, ha⟩
    · exact (num_big r g v u rest w f hr hx hgr (by omega) h1).mono (fun e w' h => .inr h)
  · exact (num_throw r w w (form_any r g v xs w f hr hx hgr hb h)).mono (fun e w' h => .inr h)

set_option maxRecDepth 100000 in
set_option maxHeartbeats 1000000 in
theorem int_throw (r : Nat) (w w0 : World) (hF : Calls Try.prog 62 #[.pointer (some ⟨r, 0, none⟩)] w (Threw r w0)) : Calls Try.prog 42 #[.pointer (some ⟨r, 0, none⟩)] w (Threw r w0) := by
  have HF := hid_of hF
  clear hF
  go_enter Try.func42, Try.ntmps42
  go_wp2_with fail
  refine HF.out.mono ?_
  rintro e w1 ⟨flt, h0, rfl, h2, h3⟩
  exact ⟨rfl, flt, h0, rfl, h2, h3⟩

/-- Int over any bytes. -/
theorem int_any (r g : Nat) (v : Value) (xs : List Int) (w : World) (f : Int) (hr : Rd w r v true f) (hx : IsR w g v xs) (hgr : g ≠ r) (hb : ∀ x ∈ xs, 0 ≤ x ∧ x ≤ 255) :
    Calls Try.prog 42 #[.pointer (some ⟨r, 0, none⟩)] w fun e w' => (∃ (n : Int) (rest : List Int), xs = Mth.form (fold n) ++ rest ∧ -9223372036854775808 ≤ n ∧ n < 9223372036854775808 ∧ e = .returned (.int .i64 n) ∧ After w w' r g f rest) ∨ Threw r w e w' := by
  by_cases h : IsForm xs
  · obtain ⟨u, rest, rfl, h0, h1⟩ := h
    obtain ⟨n, h2, h3, rfl⟩ := fold_of u h0 h1
    refine (rint r g v n rest w f hr hx hgr h2 h3).mono ?_
    rintro e w' ⟨rfl, ha⟩
    exact .inl ⟨n, rest, rfl, h2, h3, rfl, ha⟩
  · exact (int_throw r w w (form_any r g v xs w f hr hx hgr hb h)).mono (fun e w' h => .inr h)

set_option maxRecDepth 100000 in
set_option maxHeartbeats 1000000 in
theorem bool_none (r g : Nat) (v : Value) (w : World) (f : Int) (hr : Rd w r v true f) (hx : IsR w g v []) :
    Calls Try.prog 43 #[.pointer (some ⟨r, 0, none⟩)] w (Threw r w) := by
  have HF := hid_of (take_bad r g 1 v [] w f hr hx (by simp) (by decide))
  obtain ⟨q0, q1, q2, f0, f1, f2, hl⟩ := hr.cells
  clear hr hx
  go_enter Try.func43, Try.ntmps43
  go_wp2_with fail
  refine HF.out.mono ?_
  rintro e w1 ⟨flt, h0, rfl, h2, h3⟩
  exact ⟨rfl, flt, h0, rfl, h2, h3⟩

set_option maxRecDepth 100000 in
set_option maxHeartbeats 1000000 in
theorem bool_bad (r g : Nat) (v : Value) (x : Int) (rest : List Int) (w : World) (f : Int) (hr : Rd w r v true f) (hx : IsR w g v (x :: rest)) (hgr : g ≠ r) (h0 : 1 < x) (h1 : x ≤ 255) :
    Calls Try.prog 43 #[.pointer (some ⟨r, 0, none⟩)] w (Threw r w) := by
  obtain ⟨q0, q1, q2, f0, f1, f2, hl⟩ := hr.cells
  have HT := hid_of (take_ok r g 1 v (x :: rest) w f hr hx hgr (by simp))
  clear hr hx
  go_enter Try.func43, Try.ntmps43
  go_wp2_with fail
  refine HT.out.mono ?_
  rintro e w1 ⟨⟨v1, rfl, hb, hbg, _⟩, haf⟩
  obtain ⟨b, o, c, rfl, hc⟩ : ∃ b o c, v1 = .slice (some ⟨b, o, none⟩) 1 c ∧ w1.cell? ⟨b, o, none⟩ = some (.int .u8 x) := by
    rcases hb with ⟨h, _⟩ | ⟨b, o, c, rfl, hc⟩
    · cases h
    · exact ⟨b, o, c, rfl, hc 0 (by simp)⟩
  obtain ⟨v2, hr2, hx2, hk2⟩ := haf
  have HF := hid_of (fail_any r v2 f 12 w1 hr2 (by decide))
  have HK := hid_of hk2
  clear HT hb hbg hr2 hx2 hk2
  go_wp2_with fail
  refine HF.out.mono ?_
  rintro e w2 h
  obtain ⟨flt, h0, rfl, h2, h3⟩ := h.behind HK.out
  exact ⟨rfl, flt, h0, rfl, h2, h3⟩

/-- Bool over any bytes. -/
theorem bool_any (r g : Nat) (v : Value) (xs : List Int) (w : World) (f : Int) (hr : Rd w r v true f) (hx : IsR w g v xs) (hgr : g ≠ r) (hb : ∀ x ∈ xs, 0 ≤ x ∧ x ≤ 255) :
    Calls Try.prog 43 #[.pointer (some ⟨r, 0, none⟩)] w fun e w' => (∃ (x : Int) (rest : List Int), xs = x :: rest ∧ 0 ≤ x ∧ x ≤ 1 ∧ e = .returned (.bool (x == 1)) ∧ After w w' r g f rest) ∨ Threw r w e w' := by
  cases xs with
  | nil => exact (bool_none r g v w f hr hx).mono (fun e w' h => .inr h)
  | cons x rest =>
    have hx1 := hb x List.mem_cons_self
    by_cases h1 : x ≤ 1
    · refine (rbool r g v x rest w f hr hx hgr hx1.1 h1).mono ?_
      rintro e w' ⟨rfl, ha⟩
      exact .inl ⟨x, rest, rfl, hx1.1, h1, rfl, ha⟩
    · exact (bool_bad r g v x rest w f hr hx hgr (by omega) hx1.2).mono (fun e w' h => .inr h)

set_option maxRecDepth 100000 in
set_option maxHeartbeats 1000000 in
theorem raw_cut (r g n : Nat) (v : Value) (xs : List Int) (w : World) (f : Int) (hr : Rd w r v true f) (hx : IsR w g v xs) (hn : xs.length < n) (hn' : n ≤ 9223372036854775807) :
    Calls Try.prog 47 #[.pointer (some ⟨r, 0, none⟩), .int .i64 n] w (Threw r w) := by
  have HF := hid_of (take_bad r g n v xs w f hr hx hn hn')
  obtain ⟨q0, q1, q2, f0, f1, f2, hl⟩ := hr.cells
  clear hr hx
  go_enter Try.func47, Try.ntmps47
  go_wp2_with fail
  refine HF.out.mono ?_
  rintro e w1 ⟨flt, h0, rfl, h2, h3⟩
  exact ⟨rfl, flt, h0, rfl, h2, h3⟩

/-- Raw of so many over any bytes. -/
theorem raw_all (r g n : Nat) (v : Value) (xs : List Int) (w : World) (f : Int) (hr : Rd w r v true f) (hx : IsR w g v xs) (hgr : g ≠ r) (hg : g < w.heap.size) (hl : xs.length ≤ 140737488355328) (hn' : n ≤ 9223372036854775807) :
    Calls Try.prog 47 #[.pointer (some ⟨r, 0, none⟩), .int .i64 n] w fun e w' => (∃ (ys rest : List Int), xs = ys ++ rest ∧ ys.length = n ∧ (∃ v', e = .returned v' ∧ w'.ownsRow w.heap.size 5 1 v' n (ys.map (Value.int .u8))) ∧ After w w' r g f rest) ∨ Threw r w e w' := by
  by_cases h : n ≤ xs.length
  · refine (rraw r g n v xs w f hr hx hgr hg h (by omega)).mono ?_
    rintro e w' ⟨⟨v', rfl, ho⟩, ha⟩
    exact .inl ⟨xs.take n, xs.drop n, (List.take_append_drop n xs).symm, by rw [List.length_take]; omega, ⟨v', rfl, ho⟩, ha⟩
  · exact (raw_cut r g n v xs w f hr hx (by omega) hn').mono (fun e w' h => .inr h)

set_option maxRecDepth 100000 in
set_option maxHeartbeats 1000000 in
/-- Bytes over any bytes. -/
theorem bytes_any (r g : Nat) (v : Value) (xs : List Int) (w : World) (f : Int) (hr : Rd w r v true f) (hx : IsR w g v xs) (hgr : g ≠ r) (hg : g < w.heap.size) (hl : xs.length ≤ 4194304) (hb : ∀ x ∈ xs, 0 ≤ x ∧ x ≤ 255) :
    Calls Try.prog 44 #[.pointer (some ⟨r, 0, none⟩)] w fun e w' => (∃ (ys rest : List Int), xs = Mth.form ys.length ++ (ys ++ rest) ∧ (∃ v', e = .returned v' ∧ w'.ownsRow w.heap.size 5 1 v' ys.length (ys.map (Value.int .u8))) ∧ After w w' r g f rest) ∨ Threw r w e w' := by
  have HN := hid_of (num_any r g v xs w f hr hx hgr hb)
  obtain ⟨_, _, _, _, _, _, hrl⟩ := hr.cells
  clear hr hx
  go_enter Try.func44, Try.ntmps44
  go_wp2_with fail
  refine HN.out.mono ?_
  rintro e w1 (⟨u, rest, rfl, h0, h1, rfl, v1, a1, a2, a3⟩ | ⟨flt, h0, rfl, h2, h3⟩)
  · obtain ⟨n, rfl⟩ := Int.eq_ofNat_of_zero_le h0
    have HR := hid_of (raw_all r g n v1 rest w1 f a1 a2 hgr (Nat.lt_of_lt_of_le hg a3.size) (by rw [List.length_append] at hl; omega) (by omega))
    have HK := hid_of a3
    have hrl1 := a3.size
    clear HN a1 a2 a3 hb
    go_wp2_with fail
    refine HR.out.mono ?_
    rintro e w2 (⟨ys, rest', rfl, hy, ⟨v', rfl, ho⟩, v2, b1, b2, b3⟩ | h)
    · have HO := hid_of ho
      have HA : Hid (After w w2 r g f rest') := ⟨v2, b1, b2, HK.out.trans b3⟩
      clear HR ho b1 b2 b3
      go_wp2
      go_ret
      subst hy
      exact .inl ⟨ys, rest', rfl, ⟨v', rfl, own_less HO.out hrl1⟩, HA.out⟩
    · obtain ⟨flt, h0, rfl, h2, h3⟩ := h.behind HK.out
      exact ⟨rfl, .inr ⟨flt, h0, rfl, h2, h3⟩⟩
  · exact ⟨rfl, .inr ⟨flt, h0, rfl, h2, h3⟩⟩

set_option maxRecDepth 100000 in
set_option maxHeartbeats 1000000 in
/-- Text, where take or Num throws, or tells. -/
theorem text_any (r g : Nat) (v : Value) (xs : List Int) (w : World) (f : Int) (hr : Rd w r v true f) (hx : IsR w g v xs) (hgr : g ≠ r) (hl : xs.length ≤ 4194304) (hb : ∀ x ∈ xs, 0 ≤ x ∧ x ≤ 255) :
    Calls Try.prog 45 #[.pointer (some ⟨r, 0, none⟩)] w fun e w' => (∃ (ys rest : List Int), xs = Mth.form ys.length ++ (ys ++ rest) ∧ e = .returned (.string (str ys)) ∧ After w w' r g f rest) ∨ Threw r w e w' := by
  by_cases h : ∃ (ys rest : List Int), xs = Mth.form ys.length ++ (ys ++ rest)
  · obtain ⟨ys, rest, rfl⟩ := h
    refine (rtext r g v ys rest w f hr hx hgr (by rw [List.length_append, List.length_append] at hl; omega)).mono ?_
    rintro e w' ⟨rfl, ha⟩
    exact .inl ⟨ys, rest, rfl, rfl, ha⟩
  · have HN := hid_of (num_any r g v xs w f hr hx hgr hb)
    have HX := hid_of h
    clear hr hx h
    go_enter Try.func45, Try.ntmps45
    go_wp2_with fail
    refine HN.out.mono ?_
    rintro e w1 (⟨u, rest, hxs, h0, h1, rfl, v1, a1, a2, a3⟩ | ⟨flt, h0, rfl, h2, h3⟩)
    · obtain ⟨n, rfl⟩ := Int.eq_ofNat_of_zero_le h0
      have hn : rest.length < n := by
        rcases Nat.lt_or_ge rest.length n with h | h
        · exact h
        · refine absurd ⟨rest.take n, rest.drop n, ?_⟩ HX.out
          rw [List.take_append_drop, List.length_take, Nat.min_eq_left h]
          exact hxs
      have HT := hid_of (take_bad r g n v1 rest w1 f a1 a2 hn (by omega))
      have HK := hid_of a3
      clear HN a1 a2 a3 hb hxs
      go_wp2_with fail
      refine HT.out.mono ?_
      rintro e w2 h
      obtain ⟨flt, h0, rfl, h2, h3⟩ := h.behind HK.out
      exact ⟨rfl, .inr ⟨flt, h0, rfl, h2, h3⟩⟩
    · exact ⟨rfl, .inr ⟨flt, h0, rfl, h2, h3⟩⟩
end Go.Proofs.Ytffabihenhejfaa

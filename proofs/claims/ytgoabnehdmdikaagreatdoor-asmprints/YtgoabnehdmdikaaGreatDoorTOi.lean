/-
  TOi: Oi.
-/
import Derived.Test.YtgoabnehdmdikaaGreatDoorTMc
namespace Go.Proofs.YtgoabnehdmdikaaGreatDoor
open Go.RowKit
set_option linter.unusedVariables false
set_option linter.unusedSimpArgs false

set_option maxRecDepth 100000 in
set_option maxHeartbeats 1000000 in
theorem fold_any (n : Int) (w : World) (hn : -9223372036854775808 ≤ n) (h1 : n < 9223372036854775808) :
    Calls Tryz.prog 198 #[.int .i64 n] w fun e w' => e = .returned (.int .u64 (fold n)) ∧ w' = w := by
  unfold fold
  by_cases h0 : n < 0
  · rw [if_pos h0]
    go_enter Tryz.func198, Tryz.ntmps198
    go_wp2
    go_ret
    exact ⟨congrArg (fun x => Ending.returned (Value.int .u64 x)) (fold_neg n hn h0), rfl⟩
  · rw [if_neg h0]
    go_enter Tryz.func198, Tryz.ntmps198
    go_wp2
    go_ret
    exact ⟨congrArg (fun x => Ending.returned (Value.int .u64 x)) (Int.mul_comm n 2), rfl⟩

set_option maxRecDepth 100000 in
set_option maxHeartbeats 1000000 in
theorem int_s (a : Nat) (v : Value) (s : St) (n : Int) (w : World) (hw : WS w a v s) (hn : -9223372036854775808 ≤ n) (h1 : n < 9223372036854775808) :
    Calls Tryz.prog 171 #[.pointer (some ⟨a, 0, none⟩), .int .i64 n] w (PutS a v (s.put (Mth.form (fold n))) w) := by
  have hf := hid_of (fold_any n w hn h1)
  have hw' := hid_of (wform_s a v s (fold n) w hw (by unfold fold; split <;> omega) (by unfold fold; split <;> omega))
  clear hw
  generalize fold n = u at *
  go_enter Tryz.func171, Tryz.ntmps171
  go_wp2_with fail
  refine hf.out.mono ?_
  rintro e w1 ⟨rfl, rfl⟩
  go_wp2_with fail
  refine hw'.out.mono ?_
  intro e w2 hp
  have HP := hid_of hp
  obtain ⟨rfl, _⟩ := hp
  clear hf hw'
  go_wp2
  go_end0
  exact HP.out

set_option maxRecDepth 100000 in
set_option maxHeartbeats 1000000 in
theorem unfold_any (n : Int) (w : World) (hn : -9223372036854775808 ≤ n) (h1 : n < 9223372036854775808) :
    Calls Tryz.prog 199 #[.int .u64 (fold n)] w fun e w' => e = .returned (.int .i64 n) ∧ w' = w := by
  obtain ⟨l0, l1⟩ := fold_le n hn h1
  have key : fold n = if n < 0 then -2 * n - 1 else 2 * n := rfl
  have hand : bits .and .u64 (fold n) 1 = fold n % 2 := by
    obtain ⟨m, hm⟩ := Int.eq_ofNat_of_zero_le l0
    rw [hm]
    have := u64_and_nat m 1 (by omega) (by omega)
    rw [show ((1 : Nat) : Int) = 1 from rfl] at this
    rw [this, Nat.and_one_is_mod]
    omega
  by_cases h0 : n < 0
  · rw [if_pos h0] at key
    have hx : bits .xor .i64 (-1) (fold n / 2) = n := by rw [i64_not_int _ (by omega) (by omega)]; omega
    have hb : (bits .and .u64 (fold n) 1 == 1) = true := by rw [hand]; simp; omega
    have HX := hid_of hx
    clear hand key hx
    generalize fold n = u at *
    go_enter Tryz.func199, Tryz.ntmps199
    go_wp2
    go_ret
    exact ⟨congrArg (fun x => Ending.returned (Value.int .i64 x)) HX.out, rfl⟩
  · rw [if_neg h0] at key
    have hx : fold n / 2 = n := by omega
    have hb : (bits .and .u64 (fold n) 1 == 1) = false := by rw [hand]; simp; omega
    have HX := hid_of hx
    have hl2 : fold n / 2 < 9223372036854775808 := by omega
    clear hand key hx
    generalize fold n = u at *
    go_enter Tryz.func199, Tryz.ntmps199
    go_wp2
    go_ret
    exact ⟨congrArg (fun x => Ending.returned (Value.int .i64 x)) HX.out, rfl⟩

set_option maxRecDepth 100000 in
set_option maxHeartbeats 1000000 in
theorem rint (r g : Nat) (v : Value) (n : Int) (rest : List Int) (w : World) (f : Int) (hr : Rd w r v true f) (hx : IsR w g v (Mth.form (fold n) ++ rest)) (hgr : g ≠ r) (hn : -9223372036854775808 ≤ n) (h1 : n < 9223372036854775808) :
    Calls Tryz.prog 173 #[.pointer (some ⟨r, 0, none⟩)] w fun e w' => e = .returned (.int .i64 n) ∧ After w w' r g f rest := by
  obtain ⟨l0, l1⟩ := fold_le n hn h1
  have hf := hid_of (rdform r g v (fold n) rest w f hr hx hgr l0 l1)
  have hu := hid_of (fun w => unfold_any n w hn h1)
  clear hr hx
  generalize fold n = u at *
  go_enter Tryz.func173, Tryz.ntmps173
  go_wp2_with fail
  refine hf.out.mono ?_
  rintro e w1 ⟨rfl, ha⟩
  have HA := hid_of ha
  clear hf ha
  go_wp2_with fail
  refine (hu.out w1).mono ?_
  rintro e w2 ⟨rfl, rfl⟩
  go_wp2
  go_ret
  exact ⟨rfl, HA.out⟩
set_option maxRecDepth 100000 in
set_option maxHeartbeats 1000000 in
theorem int_throw_x (r : Nat) (flt : Int) (w w0 : World) (hF : Calls Tryz.prog 200 #[.pointer (some ⟨r, 0, none⟩)] w (ThrewF r flt w0)) : Calls Tryz.prog 173 #[.pointer (some ⟨r, 0, none⟩)] w (ThrewF r flt w0) := by
  have HF := hid_of hF
  clear hF
  go_enter Tryz.func173, Tryz.ntmps173
  go_wp2_with fail
  refine HF.out.mono ?_
  rintro e w1 ⟨rfl, h2, h3⟩
  exact ⟨rfl, rfl, h2, h3⟩

/-- Int, over any bytes. -/
theorem int_x (r g : Nat) (v : Value) (xs : List Int) (w : World) (f : Int) (hr : Rd w r v true f) (hx : IsR w g v xs) (hgr : g ≠ r) (hb : ∀ x ∈ xs, 0 ≤ x ∧ x ≤ 255) :
    Calls Tryz.prog 173 #[.pointer (some ⟨r, 0, none⟩)] w (Outs (intD xs) r g f w fun n e w' => e = .returned (.int .i64 n) ∧ -9223372036854775808 ≤ n ∧ n < 9223372036854775808) := by
  unfold intD
  have hfx := form_x r g v xs w f hr hx hgr hb
  rcases formD_cases xs hb with ⟨u, rest, h, he, h0, h1⟩ | h | h
  · rw [h]
    dsimp only
    subst he
    obtain ⟨h2, h3, h4⟩ := fold_unfold u h0 h1
    refine (rint r g v (unfoldI u) rest w f hr (by rw [h4]; exact hx) hgr h2 h3).mono ?_
    rintro e w' ⟨rfl, ha⟩
    exact ⟨⟨rfl, h2, h3⟩, ha⟩
  · rw [h.1] at hfx ⊢
    exact int_throw_x r 11 w w hfx
  · rw [h.1] at hfx ⊢
    exact int_throw_x r 12 w w hfx

end Go.Proofs.YtgoabnehdmdikaaGreatDoor

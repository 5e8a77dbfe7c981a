/-
  A Reader behind its Read's end: over.
-/
import Derived.Test.YtffabihenhejfaaXcalls
namespace Go.Proofs.Ytffabihenhejfaa
open Go.RowKit
set_option linter.unusedVariables false

/-- A Reader that is no longer live. -/
def Dead (w : World) (r : Nat) : Prop := ∃ f : Int, Rd w r (.slice none 0 0) false f

theorem Dead.kept {w w' : World} {r : Nat} {S : Nat → Prop} (h : Dead w r) (hk : Kept S w w') (hS : ¬ S r) : Dead w' r := by
  obtain ⟨f, h⟩ := h
  exact ⟨f, h.kept hk hS⟩

set_option maxRecDepth 100000 in
set_option maxHeartbeats 1000000 in
theorem form_dead (r : Nat) (f : Int) (w : World) (hr : Rd w r (.slice none 0 0) false f) : Calls Try.prog 62 #[.pointer (some ⟨r, 0, none⟩)] w fun e w' => e = .returned (.int .u64 0) ∧ w' = w := by
  obtain ⟨q0, q1, q2, f0, f1, f2, hl⟩ := hr.cells
  clear hr
  go_enter Try.func62, Try.ntmps62
  go_wp2
  go_ret
  exact ⟨rfl, rfl⟩

set_option maxRecDepth 100000 in
set_option maxHeartbeats 1000000 in
theorem num_dead (r : Nat) (f : Int) (w : World) (hr : Rd w r (.slice none 0 0) false f) : Calls Try.prog 41 #[.pointer (some ⟨r, 0, none⟩)] w fun e w' => e = .returned (.int .i64 0) ∧ w' = w := by
  have HF := hid_of (form_dead r f w hr)
  clear hr
  go_enter Try.func41, Try.ntmps41
  go_wp2_with fail
  refine HF.out.mono ?_
  rintro e w1 ⟨rfl, rfl⟩
  go_wp2
  go_ret
  exact ⟨rfl, rfl⟩

set_option maxRecDepth 100000 in
set_option maxHeartbeats 1000000 in
theorem int_dead (r : Nat) (f : Int) (w : World) (hr : Rd w r (.slice none 0 0) false f) : Calls Try.prog 42 #[.pointer (some ⟨r, 0, none⟩)] w fun e w' => e = .returned (.int .i64 0) ∧ w' = w := by
  have HF := hid_of (form_dead r f w hr)
  have HU := hid_of (unfold_any 0 w (by decide) (by decide))
  clear hr
  go_enter Try.func42, Try.ntmps42
  go_wp2_with fail
  refine HF.out.mono ?_
  rintro e w1 ⟨rfl, rfl⟩
  go_wp2_with fail
  refine HU.out.mono ?_
  rintro e w2 ⟨rfl, rfl⟩
  go_wp2
  go_ret
  exact ⟨rfl, rfl⟩

set_option maxRecDepth 100000 in
set_option maxHeartbeats 1000000 in
theorem bool_dead (r : Nat) (f : Int) (w : World) (hr : Rd w r (.slice none 0 0) false f) : Calls Try.prog 43 #[.pointer (some ⟨r, 0, none⟩)] w fun e w' => e = .returned (.bool false) ∧ w' = w := by
  obtain ⟨q0, q1, q2, f0, f1, f2, hl⟩ := hr.cells
  clear hr
  go_enter Try.func43, Try.ntmps43
  go_wp2
  go_ret
  exact ⟨rfl, rfl⟩

set_option maxRecDepth 100000 in
set_option maxHeartbeats 1000000 in
theorem take_dead (r : Nat) (f : Int) (w : World) (hr : Rd w r (.slice none 0 0) false f) : Calls Try.prog 64 #[.pointer (some ⟨r, 0, none⟩), .int .i64 0] w fun e w' => e = .returned (.slice none 0 0) ∧ w' = w.setCell ⟨r, 0, none⟩ (.slice none 0 0) := by
  obtain ⟨q0, q1, q2, f0, f1, f2, hl⟩ := hr.cells
  clear hr
  go_enter Try.func64, Try.ntmps64
  go_wp2
  go_ret
  exact ⟨rfl, rfl⟩

set_option maxRecDepth 100000 in
set_option maxHeartbeats 1000000 in
theorem take_dead1 (r : Nat) (f : Int) (w : World) (hr : Rd w r (.slice none 0 0) false f) : Calls Try.prog 64 #[.pointer (some ⟨r, 0, none⟩), .int .i64 1] w fun e w' => e = .returned (.slice none 0 0) ∧ w' = w := by
  have HF := hid_of (fail_dead r _ f 11 w hr)
  obtain ⟨q0, q1, q2, f0, f1, f2, hl⟩ := hr.cells
  clear hr
  go_enter Try.func64, Try.ntmps64
  go_wp2_with fail
  refine HF.out.mono ?_
  rintro e w1 ⟨rfl, rfl⟩
  go_wp2
  go_ret
  exact ⟨rfl, rfl⟩

set_option maxRecDepth 100000 in
set_option maxHeartbeats 1000000 in
theorem raw_dead (r : Nat) (f : Int) (w : World) (hr : Rd w r (.slice none 0 0) false f) : Calls Try.prog 47 #[.pointer (some ⟨r, 0, none⟩), .int .i64 0] w fun e w' => e = .returned (.slice none 0 0) ∧ w' = w.setCell ⟨r, 0, none⟩ (.slice none 0 0) := by
  have HT := hid_of (take_dead r f w hr)
  clear hr
  go_enter Try.func47, Try.ntmps47
  go_wp2_with fail
  refine HT.out.mono ?_
  rintro e w1 ⟨rfl, rfl⟩
  go_wp2_with fail
  refine (clone_nil _).mono ?_
  rintro e w2 ⟨rfl, rfl⟩
  go_wp2
  go_ret
  exact ⟨rfl, rfl⟩

set_option maxRecDepth 100000 in
set_option maxHeartbeats 1000000 in
theorem raw_dead1 (r : Nat) (f : Int) (w : World) (hr : Rd w r (.slice none 0 0) false f) : Calls Try.prog 47 #[.pointer (some ⟨r, 0, none⟩), .int .i64 1] w fun e w' => e = .returned (.slice none 0 0) ∧ w' = w := by
  have HT := hid_of (take_dead1 r f w hr)
  clear hr
  go_enter Try.func47, Try.ntmps47
  go_wp2_with fail
  refine HT.out.mono ?_
  rintro e w1 ⟨rfl, rfl⟩
  go_wp2_with fail
  refine (clone_nil _).mono ?_
  rintro e w2 ⟨rfl, rfl⟩
  go_wp2
  go_ret
  exact ⟨rfl, rfl⟩

set_option maxRecDepth 100000 in
set_option maxHeartbeats 1000000 in
theorem bytes_dead (r : Nat) (f : Int) (w : World) (hr : Rd w r (.slice none 0 0) false f) : Calls Try.prog 44 #[.pointer (some ⟨r, 0, none⟩)] w fun e w' => e = .returned (.slice none 0 0) ∧ w' = w.setCell ⟨r, 0, none⟩ (.slice none 0 0) := by
  have HN := hid_of (num_dead r f w hr)
  have HR := hid_of (raw_dead r f w hr)
  clear hr
  go_enter Try.func44, Try.ntmps44
  go_wp2_with fail
  refine HN.out.mono ?_
  rintro e w1 ⟨rfl, rfl⟩
  go_wp2_with fail
  refine HR.out.mono ?_
  rintro e w2 ⟨rfl, rfl⟩
  go_wp2
  go_ret
  exact ⟨rfl, rfl⟩

set_option maxRecDepth 100000 in
set_option maxHeartbeats 1000000 in
theorem text_dead (r : Nat) (f : Int) (w : World) (hr : Rd w r (.slice none 0 0) false f) : Calls Try.prog 45 #[.pointer (some ⟨r, 0, none⟩)] w fun e w' => e = .returned (.string ⟨#[]⟩) ∧ w' = w.setCell ⟨r, 0, none⟩ (.slice none 0 0) := by
  have HN := hid_of (num_dead r f w hr)
  have HT := hid_of (take_dead r f w hr)
  have hcv : ∀ W, (convert 25 9 (.slice none 0 0)).run Try.prog W = .ok (.string ⟨#[]⟩) W := fun W => conv_str W _ [] (.inl ⟨rfl, _, _, rfl⟩)
  clear hr
  go_enter Try.func45, Try.ntmps45
  go_wp2_with fail
  refine HN.out.mono ?_
  rintro e w1 ⟨rfl, rfl⟩
  go_wp2_with fail
  refine HT.out.mono ?_
  rintro e w2 ⟨rfl, rfl⟩
  go_wp2
  go_ret
  exact ⟨rfl, rfl⟩

set_option maxRecDepth 100000 in
set_option maxHeartbeats 1000000 in
theorem most_dead (r : Nat) (f : Int) (w : World) (hr : Rd w r (.slice none 0 0) false f) : Calls Try.prog 48 #[.pointer (some ⟨r, 0, none⟩), .int .i64 9] w fun e w' => e = .returned (.int .i64 0) ∧ w' = w := by
  have HN := hid_of (num_dead r f w hr)
  clear hr
  go_enter Try.func48, Try.ntmps48
  go_wp2_with fail
  refine HN.out.mono ?_
  rintro e w1 ⟨rfl, rfl⟩
  go_wp2
  go_ret
  exact ⟨rfl, rfl⟩

set_option maxRecDepth 100000 in
set_option maxHeartbeats 1000000 in
theorem left_dead (r : Nat) (f : Int) (w : World) (hr : Rd w r (.slice none 0 0) false f) : Calls Try.prog 49 #[.pointer (some ⟨r, 0, none⟩)] w fun e w' => e = .returned (.int .i64 0) ∧ w' = w := by
  obtain ⟨q0, q1, q2, f0, f1, f2, hl⟩ := hr.cells
  clear hr
  go_enter Try.func49, Try.ntmps49
  go_wp2
  go_ret
  exact ⟨rfl, rfl⟩

set_option maxRecDepth 100000 in
set_option maxHeartbeats 1000000 in
/-- over, of a Reader whose Read has ended. -/
theorem over_any (r : Nat) (w : World) (hd : Dead w r) : Calls Try.prog 19 #[.pointer (some ⟨r, 0, none⟩)] w fun e w' => e = .returned (.bool true) ∧ Dead w' r ∧ Kept (fun k => k = r) w w' := by
  obtain ⟨f, hr⟩ := hd
  have hr1 := hr.set0 (.slice none 0 0)
  have hr2 := hr1.set0 (.slice none 0 0)
  have HN := hid_of (num_dead r f w hr)
  have HI := hid_of (int_dead r f w hr)
  have HB := hid_of (bool_dead r f w hr)
  have HY := hid_of (bytes_dead r f w hr)
  have HT := hid_of (text_dead r f _ hr1)
  have HF := hid_of (fail_dead r _ f 9 _ hr2)
  have HR := hid_of (raw_dead1 r f _ hr2)
  have HM := hid_of (most_dead r f _ hr2)
  have HL := hid_of (left_dead r f _ hr2)
  have HN2 := hid_of (num_dead r f _ hr2)
  have HK : Hid (Dead ((w.setCell ⟨r, 0, none⟩ (.slice none 0 0)).setCell ⟨r, 0, none⟩ (.slice none 0 0)) r ∧ Kept (fun k => k = r) w ((w.setCell ⟨r, 0, none⟩ (.slice none 0 0)).setCell ⟨r, 0, none⟩ (.slice none 0 0))) := ⟨⟨f, hr2⟩, (kept_set _ _ _ _).trans (kept_set _ _ _ _)⟩
  clear hr hr1 hr2
  generalize hw1 : w.setCell ⟨r, 0, none⟩ (.slice none 0 0) = w1 at *
  generalize hw2 : w1.setCell ⟨r, 0, none⟩ (.slice none 0 0) = w2 at *
  go_enter Try.func19, Try.ntmps19
  go_wp2_with fail
  refine HN.out.mono ?_
  rintro e x1 ⟨rfl, hx⟩
  subst hx
  go_wp2_with fail
  refine HI.out.mono ?_
  rintro e x1 ⟨rfl, hx⟩
  subst hx
  go_wp2_with fail
  refine HB.out.mono ?_
  rintro e x1 ⟨rfl, hx⟩
  subst hx
  go_wp2_with fail
  refine HY.out.mono ?_
  rintro e x1 ⟨rfl, hx⟩
  subst hx
  go_wp2_with fail
  refine HT.out.mono ?_
  rintro e x1 ⟨rfl, hx⟩
  subst hx
  go_wp2_with fail
  refine HF.out.mono ?_
  rintro e x1 ⟨rfl, hx⟩
  subst hx
  go_wp2_with fail
  refine HR.out.mono ?_
  rintro e x1 ⟨rfl, hx⟩
  subst hx
  go_wp2_with fail
  refine HM.out.mono ?_
  rintro e x1 ⟨rfl, hx⟩
  subst hx
  go_wp2_with fail
  refine HL.out.mono ?_
  rintro e x1 ⟨rfl, hx⟩
  subst hx
  go_wp2_with fail
  refine HN2.out.mono ?_
  rintro e x1 ⟨rfl, hx⟩
  subst hx
  go_wp2
  go_ret
  exact ⟨rfl, HK.out⟩
end Go.Proofs.Ytffabihenhejfaa

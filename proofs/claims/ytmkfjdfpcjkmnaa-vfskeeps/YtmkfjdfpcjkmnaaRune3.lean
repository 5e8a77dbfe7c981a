/-
  strings.IndexRune in "/" and 0, of a rune beyond ASCII: those of more.
-/
import Derived.Test.YtmkfjdfpcjkmnaaRune
namespace Go.Proofs.Ytmkfjdfpcjkmnaa
open Go.RowKit
set_option linter.unusedVariables false
set_option linter.unusedSimpArgs false

theorem body_end67m {R : Ending → World → Prop} {a : Act} {w : World} (hd : a.defers = []) (h : R (.returned (a.tmps.getD 4 undef)) w) : bodyPost Try.prog Try.f96 R .ret a w :=
  bodyPost_ret (results_tmp rfl _ _ _) hd h

set_option maxRecDepth 1000000 in
set_option maxHeartbeats 2000000 in
theorem irune_three (r : Nat) (h1 : 128 ≤ r) (h2 : r ≠ 65533) (hv : Lib.validRune (r : Int) = true) (b c d : UInt8) (hE : Utf8.encode (r : Int) = ⟨#[b, c, d]⟩) (w : World) :
    Calls Try.prog 96 #[.string ⟨#[47, 0]⟩, .int .i32 r] w fun e w' => e = .returned (.int .i64 (-1)) ∧ Kept (fun _ => False) w w' := by
  have HV := hid_of (fun w => Any.utf8_ValidRune Try.lays119 (r : Int) w)
  rw [hv] at HV
  have e1 : ((r : Int) == 65533) = false := by rw [beq_eq_false_iff_ne]; omega
  clear hv
  go_enter Try.func96, Try.ntmps96
  go_wp2_with fail
  refine (HV.out _).mono ?_
  rintro e w1 ⟨rfl, rfl⟩
  clear HV
  go_wp2
  refine wp_scope_straight ?_
  go_wp2
  go_loopw [9] (fun i wr => i = .int .i64 2 ∧ wr = w1) (fun _ _ => 0)
  case atStart => exact ⟨rfl, rfl⟩
  case round =>
    obtain ⟨rfl, rfl⟩ := hrel
    go_wp2
    repeat rw [Exit.noGoto_ret]
    refine body_end67m (R := fun e w' => e = .returned (.int .i64 (-1)) ∧ Kept (fun _ => False) wr w') rfl ?_
    exact ⟨rfl, Kept.refl _ _⟩

set_option maxRecDepth 1000000 in
set_option maxHeartbeats 2000000 in
theorem irune_four (r : Nat) (h1 : 128 ≤ r) (h2 : r ≠ 65533) (hv : Lib.validRune (r : Int) = true) (b c d f : UInt8) (hE : Utf8.encode (r : Int) = ⟨#[b, c, d, f]⟩) (w : World) :
    Calls Try.prog 96 #[.string ⟨#[47, 0]⟩, .int .i32 r] w fun e w' => e = .returned (.int .i64 (-1)) ∧ Kept (fun _ => False) w w' := by
  have HV := hid_of (fun w => Any.utf8_ValidRune Try.lays119 (r : Int) w)
  rw [hv] at HV
  have e1 : ((r : Int) == 65533) = false := by rw [beq_eq_false_iff_ne]; omega
  clear hv
  go_enter Try.func96, Try.ntmps96
  go_wp2_with fail
  refine (HV.out _).mono ?_
  rintro e w1 ⟨rfl, rfl⟩
  clear HV
  go_wp2
  refine wp_scope_straight ?_
  go_wp2
  go_loopw [9] (fun i wr => i = .int .i64 3 ∧ wr = w1) (fun _ _ => 0)
  case atStart => exact ⟨rfl, rfl⟩
  case round =>
    obtain ⟨rfl, rfl⟩ := hrel
    go_wp2
    repeat rw [Exit.noGoto_ret]
    refine body_end67m (R := fun e w' => e = .returned (.int .i64 (-1)) ∧ Kept (fun _ => False) wr w') rfl ?_
    exact ⟨rfl, Kept.refl _ _⟩

end Go.Proofs.Ytmkfjdfpcjkmnaa

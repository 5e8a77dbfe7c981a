/-
  strings.IndexRune in "/" and 0, of a rune beyond ASCII: those of two bytes.
-/
import Derived.Test.YtmkfjdfpcjkmnaaRune
namespace Go.Proofs.Ytmkfjdfpcjkmnaa
open Go.RowKit
set_option linter.unusedVariables false
set_option linter.unusedSimpArgs false

theorem body_end67 {R : Ending → World → Prop} {a : Act} {w : World} (hd : a.defers = []) (h : R (.returned (a.tmps.getD 4 undef)) w) : bodyPost Try.prog Try.f96 R .ret a w :=
  bodyPost_ret (results_tmp rfl _ _ _) hd h

set_option maxRecDepth 1000000 in
set_option maxHeartbeats 2000000 in
theorem irune_two (r : Nat) (h1 : 128 ≤ r) (h2 : r ≠ 65533) (hv : Lib.validRune (r : Int) = true) (b c : UInt8) (hE : Utf8.encode (r : Int) = ⟨#[b, c]⟩) (hc : 128 ≤ c.toNat) (w : World) :
    Calls Try.prog 96 #[.string ⟨#[47, 0]⟩, .int .i32 r] w fun e w' => e = .returned (.int .i64 (-1)) ∧ Kept (fun _ => False) w w' := by
  have HV := hid_of (fun w => Any.utf8_ValidRune Try.lays119 (r : Int) w)
  rw [hv] at HV
  have HI : Hid (∀ w, Calls Try.prog 109 #[.string ⟨#[]⟩, .int .u8 c.toNat] w fun e w' => e = .returned (.int .i64 (-1)) ∧ w' = w) := fun w => Any.strings_IndexByte Try.lays137 ⟨#[]⟩ (c.toNat : Int) w
  have e1 : ((r : Int) == 65533) = false := by rw [beq_eq_false_iff_ne]; omega
  have e2 : ((0 : Int) == (c.toNat : Int)) = false := by rw [beq_eq_false_iff_ne]; omega
  have g1 : ((⟨#[47, 0]⟩ : ByteArray)[1]'(by decide)) = (0 : UInt8) := rfl
  have g2 : ((⟨#[b, c]⟩ : ByteArray)[1]'(show 1 < 2 by omega)) = c := rfl
  clear hv hc
  go_enter Try.func96, Try.ntmps96
  go_wp2_with fail
  refine (HV.out _).mono ?_
  rintro e w1 ⟨rfl, rfl⟩
  clear HV
  go_wp2
  refine wp_scope_straight ?_
  go_wp2
  go_loopw [9] (fun i wr => i = .int .i64 1 ∧ wr = w1) (fun _ _ => 0)
  case atStart => exact ⟨rfl, rfl⟩
  case round =>
    obtain ⟨rfl, rfl⟩ := hrel
    go_wp2
    refine wp_scope_straight ?_
    go_wp2
    go_quiet (fail)
    go_wp2
    go_quiet (first | (go_at_call 109; exact (HI.out _).mono (fun _ _ h => ⟨h.1, _, h.2⟩)))
    go_wp2
    repeat rw [Exit.noGoto_ret]
    refine body_end67 (R := fun e w' => e = .returned (.int .i64 (-1)) ∧ Kept (fun _ => False) wr w') rfl ?_
    exact ⟨rfl, by first | exact kept_drewN (Kept.refl _ _) _ | exact kept_drewN (kept_drewN (Kept.refl _ _) _) _⟩
end Go.Proofs.Ytmkfjdfpcjkmnaa

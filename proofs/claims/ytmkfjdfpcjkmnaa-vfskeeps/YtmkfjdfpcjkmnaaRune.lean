/-
  strings.IndexRune in "/" and 0, of a rune beyond ASCII.
-/
import Derived.Test.YtmkfjdfpcjkmnaaName
import Derived.WalkMore
import Derived.Laws.RangeAny
import Derived.Deep.LoopGhost
import Derived.Shelf.Small.Utf8
namespace Go.Proofs
open Go.Shelf
shelf_lay Lays.n119 Nm 119 at Try as Try.lays119
shelf_lay Lays.n152 Nm 152 at Try as Try.lays152
shelf_lay Lays.n137 Nm 137 at Try as Try.lays137
shelf_lay Lays.n153 Nm 153 at Try as Try.lays153
end Go.Proofs
namespace Go.Proofs.Ytmkfjdfpcjkmnaa
open Go.RowKit
set_option linter.unusedVariables false
set_option linter.unusedSimpArgs false

/-- What a rune beyond ASCII is spelt with. -/
theorem enc_high (r : Nat) (h1 : 128 ≤ r) : (∃ b c : UInt8, Utf8.encode (r : Int) = ⟨#[b, c]⟩ ∧ 128 ≤ c.toNat) ∨ (∃ b c d : UInt8, Utf8.encode (r : Int) = ⟨#[b, c, d]⟩) ∨ (∃ b c d e : UInt8, Utf8.encode (r : Int) = ⟨#[b, c, d, e]⟩) := by
  have key : ∀ c : Nat, 128 ≤ c → (if c < 0x80 then (⟨#[UInt8.ofNat c]⟩ : ByteArray) else if c < 0x800 then ⟨#[UInt8.ofNat (0xC0 + c / 64), UInt8.ofNat (0x80 + c % 64)]⟩ else if c < 0x10000 then ⟨#[UInt8.ofNat (0xE0 + c / 4096), UInt8.ofNat (0x80 + c / 64 % 64), UInt8.ofNat (0x80 + c % 64)]⟩ else ⟨#[UInt8.ofNat (0xF0 + c / 262144), UInt8.ofNat (0x80 + c / 4096 % 64), UInt8.ofNat (0x80 + c / 64 % 64), UInt8.ofNat (0x80 + c % 64)]⟩) = Utf8.encode (r : Int) → (∃ b c : UInt8, Utf8.encode (r : Int) = ⟨#[b, c]⟩ ∧ 128 ≤ c.toNat) ∨ (∃ b c d : UInt8, Utf8.encode (r : Int) = ⟨#[b, c, d]⟩) ∨ (∃ b c d e : UInt8, Utf8.encode (r : Int) = ⟨#[b, c, d, e]⟩) := by
    intro c hc h
    rw [if_neg (by omega)] at h
    split at h
    · refine .inl ⟨_, _, h.symm, ?_⟩
      rw [UInt8.toNat_ofNat']
      omega
    · split at h
      · exact .inr (.inl ⟨_, _, _, h.symm⟩)
      · exact .inr (.inr ⟨_, _, _, _, h.symm⟩)
  by_cases hv : Utf8.valid (r : Int) = true
  · refine key r h1 ?_
    simp [Utf8.encode, hv]
  · refine key Utf8.runeError (by decide) ?_
    simp [Utf8.encode, hv]

set_option maxRecDepth 1000000 in
set_option maxHeartbeats 2000000 in
theorem irune_bad (r : Nat) (h1 : 128 ≤ r) (h2 : r ≠ 65533) (hv : Lib.validRune (r : Int) = false) (w : World) :
    Calls Try.prog 96 #[.string ⟨#[47, 0]⟩, .int .i32 r] w fun e w' => e = .returned (.int .i64 (-1)) ∧ Kept (fun _ => False) w w' := by
  have HV := hid_of (fun w => Any.utf8_ValidRune Try.lays119 (r : Int) w)
  rw [hv] at HV
  have e1 : ((r : Int) == 65533) = false := by rw [beq_eq_false_iff_ne]; omega
  go_enter Try.func96, Try.ntmps96
  go_wp2_with fail
  refine (HV.out _).mono ?_
  rintro e w1 ⟨rfl, rfl⟩
  clear HV
  go_wp2
  go_ret
  exact ⟨rfl, Kept.refl _ _⟩

end Go.Proofs.Ytmkfjdfpcjkmnaa

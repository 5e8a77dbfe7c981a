/-
  A name of the small language: main.
-/
import Derived.Test.YtfblffledokjkaaDoorUa
import Derived.Test.YtfblffledokjkaaDoorGm
namespace Go.Proofs.YtfblffledokjkaaDoor
open Go.RowKit
set_option linter.unusedVariables false
set_option linter.unusedSimpArgs false
set_option maxRecDepth 100000

abbrev By := List UInt8
def strB (b : By) : Value := .string ⟨b.toArray⟩
theorem strB_eq (a b : By) : ((⟨a.toArray⟩ : ByteArray) == ⟨b.toArray⟩) = decide (a = b) := by
  have h := Go.MapKept.bytes_beq (⟨a.toArray⟩ : ByteArray) ⟨b.toArray⟩
  by_cases e : a = b
  · rw [decide_eq_true e, h, e]
  · rw [decide_eq_false e]
    cases hb : ((⟨a.toArray⟩ : ByteArray) == ⟨b.toArray⟩) with
    | false => rfl
    | true =>
      rw [h] at hb
      injection hb with hb
      exact absurd (List.toArray_inj hb) e
theorem check9 (w : World) (b : Bool) (n : Nat) (x : ByteArray) : (Instr.checkKey b (n + 1) 9 (.string x)).run Tryd.prog w = .ok () w := by
  unfold Instr.checkKey
  simp [run_underlying Tryd.underlying9, Sem.run_pure]
theorem bits9 (x : ByteArray) : Instr.sameBits 10000 (.string x) (.string x) = true := by
  have h := Go.MapKept.bytes_beq x x
  unfold Instr.sameBits
  first | exact h.2 rfl | simp [h]
def cN : Cod By Int := ⟨strB, .int .i64⟩
theorem fitsN : cN.Fits Tryd.prog 127 (.int .i64 0) :=
  ⟨⟨9, 3, _, Tryd.underlying127, Tryd.underlying9, fun a b => by show some (_ == _) = _; rw [strB_eq], fun a b n w => check9 w b n _, fun w => by kernel_rfl⟩, fun a => bits9 _⟩

set_option maxHeartbeats 1000000 in
theorem letter_low (c : Int) (w : World) (h0 : 97 ≤ c) (h1 : c ≤ 122) :
    Calls Tryd.prog 84 #[.int .u8 c] w fun e w' => e = .returned (.bool true) ∧ w' = w := by
  go_enter Tryd.func84, Tryd.ntmps84
  go_wp2
  go_ret
  exact ⟨rfl, rfl⟩
def mainV : Value := .string ⟨#[109, 97, 105, 110]⟩
set_option maxHeartbeats 4000000 in
theorem end_main (w : World) :
    Calls Tryd.prog 85 #[.string ⟨#[109, 97, 105, 110]⟩] w fun e w' => e = .returned (.int .i64 4) ∧ w' = w := by
  have H0 := hid_of (letter_low 109 w (by decide) (by decide))
  have H1 := hid_of (letter_low 97 w (by decide) (by decide))
  have H2 := hid_of (letter_low 105 w (by decide) (by decide))
  have H3 := hid_of (letter_low 110 w (by decide) (by decide))
  go_enter Tryd.func85, Tryd.ntmps85
  go_wp2
  go_loopw [3] (fun iv wr => ∃ k : Nat, k ≤ 4 ∧ iv = .int .i64 (k : Int) ∧ wr = w) (fun iv _ => 4 - (intOf iv).toNat)
  case atStart => exact ⟨0, by omega, rfl, rfl⟩
  case round =>
    obtain ⟨k, hk, rfl, hw⟩ := hrel
    have hw' := hw.symm
    clear hw
    subst hw'
    rcases (by omega : k = 0 ∨ k = 1 ∨ k = 2 ∨ k = 3 ∨ k = 4) with rfl | rfl | rfl | rfl | rfl
    · go_wp2_with fail
      refine H0.out.mono ?_
      rintro e w9 ⟨rfl, rfl⟩
      go_wp2
      go_roundw
      case rel => exact ⟨1, by omega, rfl, trivial⟩
      case measure => simp [intOf]
    · go_wp2_with fail
      refine H1.out.mono ?_
      rintro e w9 ⟨rfl, rfl⟩
      go_wp2
      go_roundw
      case rel => exact ⟨2, by omega, rfl, trivial⟩
      case measure => simp [intOf]
    · go_wp2_with fail
      refine H2.out.mono ?_
      rintro e w9 ⟨rfl, rfl⟩
      go_wp2
      go_roundw
      case rel => exact ⟨3, by omega, rfl, trivial⟩
      case measure => simp [intOf]
    · go_wp2_with fail
      refine H3.out.mono ?_
      rintro e w9 ⟨rfl, rfl⟩
      go_wp2
      go_roundw
      case rel => exact ⟨4, by omega, rfl, trivial⟩
      case measure => simp [intOf]
    · go_wp2
      go_ret
      exact ⟨rfl, rfl⟩
set_option maxHeartbeats 4000000 in
theorem kept_main (w : World) :
    Calls Tryd.prog 86 #[.string ⟨#[109, 97, 105, 110]⟩] w fun e w' => e = .returned (.bool false) ∧ w' = w := by
  go_enter Tryd.func86, Tryd.ntmps86
  go_wp2
  go_ret
  exact ⟨rfl, rfl⟩
set_option maxHeartbeats 4000000 in
theorem word_main (w : World) :
    Calls Tryd.prog 73 #[.string ⟨#[109, 97, 105, 110]⟩] w fun e w' => e = .returned (.bool true) ∧ w' = w := by
  have H0 := hid_of (letter_low 109 w (by decide) (by decide))
  have H1 := hid_of (end_main w)
  have H2 := hid_of (kept_main w)
  go_enter Tryd.func73, Tryd.ntmps73
  go_wp2_with fail
  refine H0.out.mono ?_
  rintro e w9 ⟨rfl, hw⟩
  have hw' := hw.symm
  clear hw
  subst hw'
  go_wp2_with fail
  refine H1.out.mono ?_
  rintro e w9 ⟨rfl, hw⟩
  have hw' := hw.symm
  clear hw
  subst hw'
  go_wp2_with fail
  refine H2.out.mono ?_
  rintro e w9 ⟨rfl, hw⟩
  have hw' := hw.symm
  clear hw
  subst hw'
  go_wp2
  go_ret
  exact ⟨rfl, rfl⟩
set_option maxHeartbeats 4000000 in
theorem give_main (r c : Nat) (w : World) (hb : w.heap[r]? = some (.map #[] c)) :
    Calls Tryd.prog 55 #[.map (some r), .string ⟨#[109, 97, 105, 110]⟩] w fun e w' => e = .returned (.int .i64 0) ∧ Kept (fun q => q = r) w w' := by
  have H0 := hid_of (word_main w)
  have hlk : (Instr.lookup 127 (.map (some r)) (.string ⟨#[109, 97, 105, 110]⟩) true).run Tryd.prog w = .ok (.tuple #[.int .i64 0, .bool false]) w := run_look fitsN w r c [] hb [109, 97, 105, 110] true
  have hln : (Builtin.len_ #[127] 3 #[.map (some r)]).run Tryd.prog w = .ok (.int .i64 0) w := run_len_map w 127 3 r #[] c (by kernel_rfl) hb
  obtain ⟨c', hup⟩ := run_lay fitsN w r c [] hb [109, 97, 105, 110] 0
  have hup' : (Instr.mapUpdate 127 (.map (some r)) (.string ⟨#[109, 97, 105, 110]⟩) (.int .i64 0)).run Tryd.prog w = .ok () (World.over w r (.map ((lays ([] : List (Me By Int)) [109, 97, 105, 110] 0 c).map cN.ent).toArray c')) := hup
  have hk : Kept (fun q => q = r) w (World.over w r (.map ((lays ([] : List (Me By Int)) [109, 97, 105, 110] 0 c).map cN.ent).toArray c')) := ⟨rfl, rfl, rfl, by simp [World.over], fun k hk hn => by simp [World.over, Array.getElem?_setIfInBounds, Ne.symm hn]⟩
  generalize World.over w r (.map ((lays ([] : List (Me By Int)) [109, 97, 105, 110] 0 c).map cN.ent).toArray c') = w2 at *
  have HK := hid_of hk
  clear hup hk
  go_enter Tryd.func55, Tryd.ntmps55
  go_wp2_with fail
  refine H0.out.mono ?_
  rintro e w9 ⟨rfl, hw⟩
  have hw' := hw.symm
  clear hw
  subst hw'
  go_wp2
  go_ret
  exact ⟨rfl, HK.out⟩
end Go.Proofs.YtfblffledokjkaaDoor

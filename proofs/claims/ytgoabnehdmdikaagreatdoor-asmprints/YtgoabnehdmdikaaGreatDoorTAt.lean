/-
  TAt: At.
-/
import Derived.Test.YtgoabnehdmdikaaGreatDoorTAb
import Derived.Lib.ItoaLen
namespace Go.Proofs.YtgoabnehdmdikaaGreatDoor
open Go.RowKit
set_option linter.unusedVariables false
set_option linter.unusedSimpArgs false
set_option maxRecDepth 100000

theorem dig_str (W : World) (x : Int) : (convert 23 9 (.slice (some ⟨W.heap.size, 0, none⟩) 1 1)).run Tryz.prog (W.alloc (.cells #[.int .u8 x] 5)) = .ok (.string (str [x])) (W.alloc (.cells #[.int .u8 x] 5)) :=
  conv_str _ _ [x] (isB_own (own_one W (.int .u8 x) 0 (Nat.zero_le _)))
theorem dec_cons (u : Nat) (h : 9 < u) : Lib.decDigits u = Lib.decDigits (u / 10) ++ [UInt8.ofNat (48 + u % 10)] := by
  rw [Lib.decDigits, dif_neg (by omega)]
theorem str_one (x : Nat) : str [((x : Nat) : Int)] = ⟨#[UInt8.ofNat x]⟩ := rfl
theorem ba_app (a b : List UInt8) : (⟨a.toArray⟩ : ByteArray) ++ ⟨b.toArray⟩ = ⟨(a ++ b).toArray⟩ := by
  apply ByteArray.ext; simp
theorem dec_len (U : Nat) (h : U ≤ 9223372036854775808) : (Lib.decDigits U).length ≤ 20 := by
  rw [Lib.decDigits_length]; exact Lib.nDigits_le20 U (by omega)
/-- What the loop keeps: the digits that are written. -/
def DcL (U u : Nat) (s : ByteArray) : Prop := ∃ l : List UInt8, s = ⟨l.toArray⟩ ∧ Lib.decDigits U = Lib.decDigits u ++ l
theorem DcL.more {U u : Nat} {s : ByteArray} (h : DcL U u s) (hu : 9 < u) : DcL U (u / 10) (str [48 + (u : Int) % 10] ++ s) := by
  obtain ⟨l, rfl, hl⟩ := h
  refine ⟨UInt8.ofNat (48 + u % 10) :: l, ?_, ?_⟩
  · have e : (48 + (u : Int) % 10) = ((48 + u % 10 : Nat) : Int) := by omega
    rw [e, str_one]; exact ba_app [UInt8.ofNat (48 + u % 10)] l
  · rw [hl, dec_cons u hu]; simp
theorem DcL.last {U u : Nat} {s : ByteArray} (h : DcL U u s) (hu : ¬ 9 < u) : str [48 + (u : Int)] ++ s = ⟨(Lib.decDigits U).toArray⟩ := by
  obtain ⟨l, rfl, hl⟩ := h
  have e : (48 + (u : Int)) = ((48 + u : Nat) : Int) := by omega
  rw [hl, e, str_one, Lib.decDigits_one (by omega)]; exact ba_app [UInt8.ofNat (48 + u)] l
theorem DcL.size {U u : Nat} {s : ByteArray} (h : DcL U u s) (hU : U ≤ 9223372036854775808) : s.size ≤ 20 := by
  obtain ⟨l, rfl, hl⟩ := h
  have := dec_len U hU
  rw [hl, List.length_append] at this
  have hs : (⟨l.toArray⟩ : ByteArray).size = l.length := by simp [ByteArray.size]
  omega
set_option maxHeartbeats 8000000 in
theorem decimal_pos (U : Nat) (hU : U ≤ 9223372036854775807) (w : World) :
    Calls Tryz.prog 30 #[.int .i64 (U : Int)] w fun e w' => e = .returned (.string ⟨(Lib.decDigits U).toArray⟩) ∧ Kept (fun _ => False) w w' := by
  go_enter Tryz.func30, Tryz.ntmps30
  go_wp2
  go_loopw [3, 4] (fun uv sv wr => ∃ (u : Nat) (s : ByteArray), uv = .int .u64 (u : Int) ∧ sv = .string s ∧ u ≤ 9223372036854775808 ∧ s.size ≤ 20 ∧ Hid (DcL U u s) ∧ Hid (Kept (fun _ => False) w wr)) (fun uv _ _ => (intOf uv).toNat)
  case atStart => exact ⟨U, _, rfl, rfl, by omega, by decide, ⟨[], rfl, by simp⟩, Kept.refl _ _⟩
  case round =>
    obtain ⟨u, s, rfl, rfl, hu, hs, HL, HK⟩ := hrel
    by_cases hlt : 9 < u
    · have hltI : (9 : Int) < (u : Int) := by omega
      have hd := dig_str wr
      have hz : (str [48 + (u : Int) % 10]).size = 1 := str_size _
      have HM := hid_of (HL.out.more hlt)
      have hs2 := HM.out.size (by omega)
      go_wp2
      go_roundw
      case rel => exact ⟨u / 10, _, by go_num, rfl, by omega, hs2, HM, HK.out.alloc _⟩
      case measure => simp [intOf]; omega
    · have hltI : ¬ (9 : Int) < (u : Int) := by omega
      have hd := dig_str wr
      have hz : (str [48 + (u : Int)]).size = 1 := str_size _
      have hE := HL.out.last hlt
      have hsz := dec_len U (by omega)
      have hsz2 : (⟨(Lib.decDigits U).toArray⟩ : ByteArray).size ≤ 20 := by simpa [ByteArray.size] using hsz
      go_wp2
      go_ret
      exact ⟨rfl, HK.out.alloc _⟩
set_option maxHeartbeats 8000000 in
theorem decimal_neg (U : Nat) (hU : U ≤ 9223372036854775808) (h1 : 1 ≤ U) (w : World) :
    Calls Tryz.prog 30 #[.int .i64 (-(U : Int))] w fun e w' => e = .returned (.string ⟨(45 :: Lib.decDigits U).toArray⟩) ∧ Kept (fun _ => False) w w' := by
  have hn : -(U : Int) < 0 := by omega
  have hwr : IntKind.u64.wrap (-IntKind.u64.wrap (-(U : Int))) = (U : Int) := by
    have e : ∀ x : Int, IntKind.u64.wrap x = x % 18446744073709551616 := fun x => rfl
    rw [e, e]; omega
  go_enter Tryz.func30, Tryz.ntmps30
  go_wp2
  try simp only [hwr]
  go_loopw [3, 4] (fun uv sv wr => ∃ (u : Nat) (s : ByteArray), uv = .int .u64 (u : Int) ∧ sv = .string s ∧ u ≤ 9223372036854775808 ∧ s.size ≤ 20 ∧ Hid (DcL U u s) ∧ Hid (Kept (fun _ => False) w wr)) (fun uv _ _ => (intOf uv).toNat)
  case atStart => exact ⟨U, _, rfl, rfl, by omega, by decide, ⟨[], rfl, by simp⟩, Kept.refl _ _⟩
  case round =>
    obtain ⟨u, s, rfl, rfl, hu, hs, HL, HK⟩ := hrel
    by_cases hlt : 9 < u
    · have hltI : (9 : Int) < (u : Int) := by omega
      have hd := dig_str wr
      have hz : (str [48 + (u : Int) % 10]).size = 1 := str_size _
      have HM := hid_of (HL.out.more hlt)
      have hs2 := HM.out.size (by omega)
      go_wp2
      go_roundw
      case rel => exact ⟨u / 10, _, by go_num, rfl, by omega, hs2, HM, HK.out.alloc _⟩
      case measure => simp [intOf]; omega
    · have hltI : ¬ (9 : Int) < (u : Int) := by omega
      have hd := dig_str wr
      have hz : (str [48 + (u : Int)]).size = 1 := str_size _
      have hE := HL.out.last hlt
      have hsz := dec_len U (by omega)
      have hsz2 : (⟨(Lib.decDigits U).toArray⟩ : ByteArray).size ≤ 20 := by simpa [ByteArray.size] using hsz
      have hE2 : (⟨#[45]⟩ : ByteArray) ++ ⟨(Lib.decDigits U).toArray⟩ = ⟨(45 :: Lib.decDigits U).toArray⟩ := ba_app [45] _
      go_wp2
      go_ret
      exact ⟨rfl, HK.out.alloc _⟩
theorem decimal_any (n : Int) (h0 : -9223372036854775808 ≤ n) (h1 : n ≤ 9223372036854775807) (w : World) :
    Calls Tryz.prog 30 #[.int .i64 n] w fun e w' => e = .returned (.string ⟨(Lib.itoa n).toArray⟩) ∧ Kept (fun _ => False) w w' := by
  by_cases hn : n < 0
  · obtain ⟨u, rfl⟩ : ∃ u : Nat, n = -(u : Int) := ⟨n.natAbs, by omega⟩
    rw [Lib.itoa_neg u (by omega)]
    exact decimal_neg u (by omega) (by omega) w
  · obtain ⟨u, rfl⟩ : ∃ u : Nat, n = (u : Int) := ⟨n.toNat, by omega⟩
    rw [Lib.itoa_nonneg]
    exact decimal_pos u (by omega) w
theorem itoa_size (n : Int) (h0 : -9223372036854775808 ≤ n) (h1 : n ≤ 9223372036854775807) : (⟨(Lib.itoa n).toArray⟩ : ByteArray).size ≤ 21 := by
  simpa [ByteArray.size] using Lib.itoa_length_le n h0 h1
end Go.Proofs.YtgoabnehdmdikaaGreatDoor

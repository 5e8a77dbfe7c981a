/-
  node.front by contract: a digest without the zeros at its end.
-/
import Derived.Test.YtcpkbajmilkhpabGreatDoorNeq
import Derived.Great.Ranges
import Derived.BigGuard
namespace Go.Proofs.YtcpkbajmilkhpabGreatDoor
open Go.RowKit
set_option linter.unusedVariables false
set_option linter.unusedSimpArgs false
set_option maxRecDepth 100000

theorem dig_front (y : EV) (i : Nat) (h : i < y.fr.length) : y.dig.getD i 0 = y.fr.getD i 0 := by
  rw [EV.dig, List.getD, List.getD, List.getElem?_append_left h]
theorem dig_zero (y : EV) (i : Nat) (h : y.fr.length ≤ i) : y.dig.getD i 0 = 0 := by
  rw [EV.dig, List.getD, List.getElem?_append_right h, List.getElem?_replicate]
  split <;> rfl

set_option maxHeartbeats 1000000 in
theorem trim_any (y : EV) (B : Nat) (w : World) (h32 : y.fr.length ≤ 32) (hz : endsZ y.fr = false) (hc : ∀ i, i < 32 → w.cell? ⟨B, i, none⟩ = some (.int .u8 (y.dig.getD i 0))) :
    Calls Tryz.prog 62 #[.slice (some ⟨B, 0, none⟩) 32 32, .int .u8 0] w fun e w' => e = .returned (.slice (some ⟨B, 0, none⟩) y.fr.length 32) ∧ w' = w := by
  obtain ⟨n, hn⟩ : ∃ n, n = y.fr.length := ⟨_, rfl⟩
  have HN := hid_of hn
  rw [← hn] at h32 ⊢
  have HC := hid_of hc
  have HZ := hid_of hz
  clear hn hc hz
  go_enter Tryz.func62, Tryz.ntmps62
  go_wp2
  go_loopw [0] (fun sv wr => ∃ m : Nat, n ≤ m ∧ m ≤ 32 ∧ sv = .slice (some ⟨B, 0, none⟩) m 32 ∧ wr = w) (fun sv _ => match sv with | .slice _ m _ => m | _ => 0)
  case atStart => exact ⟨32, h32, Nat.le_refl _, rfl, rfl⟩
  case round =>
    obtain ⟨m, hm, hm32, rfl, rfl⟩ := hrel
    by_cases h0 : m = 0
    · have hn0 : n = 0 := by omega
      subst hn0
      subst h0
      go_wp2
      go_ret
      exact ⟨rfl, rfl⟩
    · obtain ⟨k, hk⟩ : ∃ k, m = k + 1 := ⟨m - 1, by omega⟩
      have hpos : 0 < m := by omega
      have hw9 : IntKind.i64.wrap ((m : Int) - 1) = (k : Int) := by simp [IntKind.wrap, IntKind.bits, IntKind.signed]; omega
      have hk0 : (0 : Int) ≤ (k : Int) := by omega
      have hkm : (k : Int) < (m : Int) := by omega
      have hk32 : (k : Int) ≤ 32 := by omega
      have hkN : k ≤ 32 := by omega
      have hck := HC.out k (by omega)
      by_cases hlt : n < m
      · have hz0 : y.dig.getD k 0 = 0 := dig_zero y k (by rw [← HN.out]; omega)
        rw [hz0] at hck
        have hnk : n ≤ k := by omega
        have hkk : k < m := by omega
        clear hk hz0 h0 hlt
        go_wp2
        go_roundw
        case rel => exact ⟨k, hnk, hkN, rfl, trivial⟩
        case measure => simpa using hkk
      · have hmn : m = n := by omega
        have hzk : (y.dig.getD k 0 == 0) = false := by
          rw [dig_front y k (by rw [← HN.out]; omega)]
          have h1 := HZ.out
          unfold endsZ at h1
          rw [List.getLast?_eq_getElem?, show y.fr.length - 1 = k by rw [← HN.out]; omega, List.getElem?_eq_getElem (by rw [← HN.out]; omega)] at h1
          rw [List.getD, List.getElem?_eq_getElem (by rw [← HN.out]; omega)]
          simpa using h1
        generalize y.dig.getD k 0 = lb at *
        subst hmn
        clear hk h0 hlt
        go_wp2
        go_ret
        exact ⟨rfl, rfl⟩

set_option maxHeartbeats 1000000 in
theorem trimr_any (y : EV) (B : Nat) (w : World) (h32 : y.fr.length ≤ 32) (hz : endsZ y.fr = false) (hc : ∀ i, i < 32 → w.cell? ⟨B, i, none⟩ = some (.int .u8 (y.dig.getD i 0))) :
    Calls Tryz.prog 44 #[.slice (some ⟨B, 0, none⟩) 32 32, .string ⟨#[0]⟩] w fun e w' => e = .returned (.slice (some ⟨B, 0, none⟩) y.fr.length 32) ∧ w' = w := by
  have HT := hid_of (trim_any y B w h32 hz hc)
  clear h32 hz hc
  go_enter Tryz.func44, Tryz.ntmps44
  go_wp2_with fail
  refine HT.out.mono ?_
  rintro e w1 ⟨rfl, rfl⟩
  clear HT
  go_wp2
  go_ret
  exact ⟨rfl, rfl⟩

set_option maxHeartbeats 1000000 in
theorem front_any (y : EV) (w : World) (h32 : y.fr.length ≤ 32) (hz : endsZ y.fr = false) :
    Calls Tryz.prog 25 #[.agg (y.dig.map (Value.int .u8)).toArray] w fun e w' => e = .returned (.slice (some ⟨w.heap.size, 0, none⟩) y.fr.length 32) ∧ w' = w.alloc (.cells (y.dig.map (Value.int .u8)).toArray 39) := by
  have hb := heap_alloc_new w (.cells (y.dig.map (Value.int .u8)).toArray 39)
  have hl := y.dig_len h32
  have HT := hid_of (trimr_any y w.heap.size (w.alloc (.cells (y.dig.map (Value.int .u8)).toArray 39)) h32 hz (fun i hi => by
    rw [cell_block _ _ _ _ _ _ hb]
    simp [List.getD, List.getElem?_eq_getElem (show i < y.dig.length by omega)]))
  have hbl : w.heap.size < (w.alloc (.cells (y.dig.map (Value.int .u8)).toArray 39)).heap.size := by simp
  have hsz : (y.dig.map (Value.int .u8)).toArray.size = 32 := by simp [hl]
  clear h32 hz hl
  generalize (y.dig.map (Value.int .u8)).toArray = cs at *
  go_enter Tryz.func25, Tryz.ntmps25
  go_upto_region 1 with (refine Go.Great.wpList_boxTo rfl 39 _ rfl _ rfl w.heap.size rfl cs rfl ?_)
  generalize hwB : w.alloc (.cells cs 39) = wB at *
  have HWB := hid_of hwB
  clear hwB
  go_wp2_with fail
  refine HT.out.mono ?_
  rintro e w1 ⟨rfl, hw1⟩
  have HW1 := hid_of hw1
  clear HT hw1
  go_wp2
  go_ret
  exact ⟨rfl, HW1.out.trans HWB.out.symm⟩
end Go.Proofs.YtcpkbajmilkhpabGreatDoor

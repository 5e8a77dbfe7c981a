/-
  The reference's Front by contract.
-/
import Derived.Test.YtcpkbajmilkhpabGreatDoorNfe
import Derived.Test.YtcpkbajmilkhpabGreatDoorNls
import Derived.Deep.Onto
namespace Go.Proofs.YtcpkbajmilkhpabGreatDoor
open Go.RowKit
set_option linter.unusedVariables false
set_option linter.unusedSimpArgs false
set_option maxRecDepth 100000

theorem app_byte (W : World) (v : Value) (base : Nat) (l : List Int) (x : Int) (hown : W.ownsRow base 5 1 v l.length (l.map (Value.int .u8))) (hb : base ≤ W.heap.size) (hsz : l.length + 1 ≤ 140737488355328) :
    ∃ v' w', (Builtin.append_ #[27, 27] 27 #[v, .slice (some ⟨W.heap.size, 0, none⟩) 1 1]).run Tryz.prog (W.alloc (.cells #[.int .u8 x] 5)) = .ok v' w' ∧ w'.ownsRow base 5 1 v' (l ++ [x]).length ((l ++ [x]).map (Value.int .u8)) ∧ (∃ g cap, v' = .slice (some ⟨g, 0, none⟩) (l ++ [x]).length cap) ∧ Kept (fun k => v.ownBlock = some k) W w' := by
  obtain ⟨i0, hi, hz0, hz1, hz2⟩ := info_parts Tryz.info5
  obtain ⟨v', w', hr, h2, h3, _⟩ := run_append_own (P := Tryz.prog) (W.alloc (.cells #[.int .u8 x] 5)) base 27 27 5 i0 _ 1 1 Tryz.underlying27 hi hz0 hz1 hz2 rfl (by decide) v l.length (l.map (Value.int .u8)) (hown.alloc _) ⟨W.heap.size, 0, none⟩ 1 1 [.int .u8 x] rfl (fun j u hj => by
    rw [Addr.add_lit, cell_block _ _ _ _ _ _ (heap_alloc_new W _), Nat.zero_add]
    simpa using hj) (fun u hu => by simp at hu; subst hu; rfl) (by unfold maxLen; omega) (by omega) (by simp; omega)
  rw [show l.map (Value.int .u8) ++ [.int .u8 x] = (l ++ [x]).map (Value.int .u8) by simp] at h2
  refine ⟨v', w', hr, by rw [List.length_append]; exact h2, ?_, ?_⟩
  · rw [List.length_append]
    rcases h2.2 with ⟨_, h⟩ | ⟨g, cap, cur, h, _⟩
    · simp at h
    · exact ⟨g, cap, h⟩
  · exact ((Kept.refl (fun k => v.ownBlock = some k) W).alloc _).grown h3 (fun k hk => .inr hk)

set_option maxHeartbeats 2000000 in
theorem front_ref (y : EV) (w : World) (h32 : y.fr.length ≤ 32) (hz : endsZ y.fr = false) :
    Calls Tryz.prog 27 #[.agg (y.dig.map (Value.int .u8)).toArray] w fun e w' => ∃ v', e = .returned v' ∧ w'.ownsRow w.heap.size 5 1 v' y.fr.length (y.fr.map (Value.int .u8)) ∧ Kept (fun _ => False) w w' := by
  have hb := heap_alloc_new w (.cells (y.dig.map (Value.int .u8)).toArray 39)
  have hl := y.dig_len h32
  have hc : ∀ i, i < 32 → (w.alloc (.cells (y.dig.map (Value.int .u8)).toArray 39)).cell? ⟨w.heap.size, i, none⟩ = some (.int .u8 (y.dig.getD i 0)) := fun i hi => by
    rw [cell_block _ _ _ _ _ _ hb]
    simp [List.getD, List.getElem?_eq_getElem (show i < y.dig.length by omega)]
  have hbl : w.heap.size < (w.alloc (.cells (y.dig.map (Value.int .u8)).toArray 39)).heap.size := by simp
  have HKA : Hid (Kept (fun _ => False) w (w.alloc (.cells (y.dig.map (Value.int .u8)).toArray 39))) := (Kept.refl _ _).alloc _
  have HZ := hid_of hz
  clear hz hb hl
  generalize (y.dig.map (Value.int .u8)).toArray = cs at *
  go_enter Tryz.func27, Tryz.ntmps27
  go_upto_region 1 with (refine Go.Great.wpList_boxTo rfl 39 _ rfl _ rfl w.heap.size rfl cs rfl ?_)
  generalize w.alloc (.cells cs 39) = wB at *
  have HC := hid_of hc
  clear hc
  go_wp2
  go_loopw [3, 4] (fun nv iv wr => ∃ n i : Nat, n ≤ i ∧ i ≤ 32 ∧ nv = .int .i64 n ∧ iv = .int .i64 i ∧ wr = wB ∧ (∀ j, n ≤ j → j < i → y.dig.getD j 0 = 0) ∧ (0 < n → y.dig.getD (n - 1) 0 ≠ 0)) (fun _ iv _ => 32 - (intOf iv).toNat)
  case atStart => exact ⟨0, 0, Nat.le_refl _, by omega, rfl, rfl, rfl, fun j _ hj => absurd hj (by omega), fun h => absurd h (by omega)⟩
  case round =>
    obtain ⟨n, i, hni, hi, rfl, rfl, hwr, hzs, hnz⟩ := hrel
    have hwr' := hwr.symm
    subst hwr'
    clear hwr
    have HZS := hid_of hzs
    have HNZ := hid_of hnz
    clear hzs hnz
    by_cases hlt : i < 32
    · have hltI : (i : Int) < 32 := by omega
      have hi0 : (0 : Int) ≤ (i : Int) := by omega
      have hci := HC.out i hlt
      obtain ⟨b, hbv⟩ : ∃ b, b = y.dig.getD i 0 := ⟨_, rfl⟩
      rw [← hbv] at hci
      have HBV := hid_of hbv
      clear hbv
      by_cases hb0 : b = 0
      · have hbb : (b != 0) = false := by simp [hb0]
        have hbb2 : (b == 0) = true := by simp [hb0]
        have HZ2 : Hid (∀ j, n ≤ j → j < i + 1 → y.dig.getD j 0 = 0) := fun j h1 h2 => by
          rcases Nat.lt_or_ge j i with h | h
          · exact HZS.out j h1 h
          · rw [show j = i by omega, ← HBV.out]; exact hb0
        clear hb0
        go_wp2
        go_roundw
        case rel => exact ⟨n, i + 1, by omega, by omega, rfl, by go_num, trivial, HZ2.out, HNZ.out⟩
        case measure => simp [intOf]; omega
      · have hbb : (b != 0) = true := by simpa using hb0
        have hbb2 : (b == 0) = false := by simpa using hb0
        have HN2 : Hid (0 < i + 1 → y.dig.getD (i + 1 - 1) 0 ≠ 0) := fun _ => by rw [Nat.add_sub_cancel, ← HBV.out]; exact hb0
        clear hb0
        go_wp2
        go_roundw
        case rel => exact ⟨i + 1, i + 1, Nat.le_refl _, by omega, by go_num, by go_num, trivial, fun j h1 h2 => absurd h1 (by omega), HN2.out⟩
        case measure => simp [intOf]; omega
    · have hie : i = 32 := by omega
      subst hie
      have hnf : n = y.fr.length := by
        rcases Nat.lt_trichotomy n y.fr.length with h | h | h
        · exfalso
          have h1 := HZS.out (y.fr.length - 1) (by omega) (by omega)
          rw [dig_front y _ (by omega)] at h1
          have h2 := HZ.out
          unfold endsZ at h2
          rw [List.getLast?_eq_getElem?, List.getElem?_eq_getElem (by omega)] at h2
          rw [List.getD, List.getElem?_eq_getElem (by omega)] at h1
          simp at h1 h2
          exact h2 h1
        · exact h
        · exact absurd (dig_zero y (n - 1) (by omega)) (HNZ.out (by omega))
      have HNF := hid_of hnf
      clear hnf HZS HNZ
      go_wp2
      go_loopw [5, 6] (fun ov iv wr => ∃ (i : Nat) (ao : Option Addr) (cp : Nat), i ≤ n ∧ iv = .int .i64 i ∧ ov = .slice ao i cp ∧ wr.ownsRow (w.heap.size + 1) 5 1 (.slice ao i cp) (y.fr.take i).length ((y.fr.take i).map (Value.int .u8)) ∧ Kept (fun k => w.heap.size < k) wB wr) (fun _ iv _ => n - (intOf iv).toNat)
      case atStart => exact ⟨0, none, 0, by omega, rfl, rfl, World.ownsRow_nil _ _ _ _, Kept.refl _ _⟩
      case round =>
        obtain ⟨i, ao, cp, hi2, rfl, rfl, hown, hkw⟩ := hrel
        by_cases hlt2 : i < n
        · have hltI : (i : Int) < (n : Int) := by omega
          have hi0 : (0 : Int) ≤ (i : Int) := by omega
          have hi32 : (i : Int) < 32 := by omega
          have hci := hkw.cell (HC.out i (by omega)) (fun h => by have h : w.heap.size < w.heap.size := h; omega)
          rw [dig_front y i (by rw [← HNF.out]; exact hlt2)] at hci
          have hsl : w.heap.size < wr.heap.size := Nat.lt_of_lt_of_le hbl hkw.size
          have htl : (y.fr.take i).length = i := by rw [List.length_take, ← HNF.out]; omega
          have hfi : y.fr.take (i + 1) = y.fr.take i ++ [y.fr.getD i 0] := by
            rw [List.take_add_one, List.getD, List.getElem?_eq_getElem (by rw [← HNF.out]; exact hlt2)]
            rfl
          obtain ⟨v5, w5, hr5, ho5, ⟨g5, c5, hv5⟩, hk5⟩ := app_byte wr _ (w.heap.size + 1) (y.fr.take i) (y.fr.getD i 0) hown (by omega) (by omega)
          have hlt5 := hown.lt
          rw [← hfi] at ho5 hv5
          rw [show (y.fr.take (i + 1)).length = i + 1 by rw [List.length_take, ← HNF.out]; omega] at hv5
          subst hv5
          have HREL : Hid (w5.ownsRow (w.heap.size + 1) 5 1 (.slice (some ⟨g5, 0, none⟩) (i + 1) c5) (y.fr.take (i + 1)).length ((y.fr.take (i + 1)).map (Value.int .u8)) ∧ Kept (fun k => w.heap.size < k) wB w5) := ⟨ho5, hkw.trans (hk5.mono (fun k _ hk => by have := (hlt5 k hk).1; show w.heap.size < k; omega))⟩
          generalize y.fr.getD i 0 = bb at *
          clear hown hkw ho5 hk5 hlt5 hfi htl
          go_upto_region 10 with (at_builtin; refine wp_app2 rfl (.tmp 22) (.tmp 26) 27 27 ?_ _ _ rfl rfl (.slice (some ⟨g5, 0, none⟩) (i + 1) c5) w5 hr5 ?_; rfl)
          clear hr5
          go_wp2
          go_roundw
          case rel =>
            refine ⟨_, _, _, _, _, _, _, _, _, _, _, _, _, ⟨i + 1, some ⟨g5, 0, none⟩, c5, by omega, ?_, rfl, HREL.out.1, HREL.out.2⟩, rfl⟩
            go_num
          case measure => simp [intOf]; omega
        · have hin : i = n := by omega
          subst hin
          rw [List.take_of_length_le (by rw [HNF.out]; exact Nat.le_refl _)] at hown
          have HFIN : Hid (wr.ownsRow w.heap.size 5 1 (.slice ao i cp) y.fr.length (y.fr.map (Value.int .u8)) ∧ Kept (fun _ => False) w wr) := ⟨World.ownsRow.mono hown (Nat.le_succ _), HKA.out.step hkw (fun k hk h => by have h : w.heap.size < k := h; omega)⟩
          clear hown hkw
          go_wp2
          go_ret
          exact ⟨_, rfl, HFIN.out.1, HFIN.out.2⟩
end Go.Proofs.YtcpkbajmilkhpabGreatDoor

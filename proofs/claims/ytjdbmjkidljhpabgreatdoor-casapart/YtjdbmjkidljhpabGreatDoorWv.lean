/-
  CasApart, by contract.
-/
import Derived.Test.YtjdbmjkidljhpabGreatDoorWz
import Derived.Deep.CutBlock
import Derived.Deep.DeepCutAuto
namespace Go.Proofs.YtjdbmjkidljhpabGreatDoor
open Go.RowKit
set_option linter.unusedVariables false
set_option linter.unusedSimpArgs false
set_option maxRecDepth 100000

/-- A value is a row of these numbers. -/
def NIs (w : World) (v : Value) (ns : List Int) : Prop :=
  ∃ ao cap, v = .slice ao ns.length cap ∧ ns.length ≤ maxLen ∧ ∀ i x, ns[i]? = some x → ∃ g o, ao = some ⟨g, o, none⟩ ∧ w.cell? ⟨g, o + i, none⟩ = some (.int .i64 x)
set_option maxHeartbeats 4000000 in
theorem apart_bb (wd wd2 cp : Int) (vf vl vr vt : Value) (tw : Bool) (tf tl tr : List Stp) (ns : List Int) (W : World) (h : ¬ ((1 ≤ wd ∧ wd ≤ 32) ∧ 0 ≤ cp ∧ cp ≤ 67108864) ∧ ¬ ((1 ≤ wd2 ∧ wd2 ≤ 32) ∧ 0 ≤ cp ∧ cp ≤ 67108864)) (hL : Laid W) (hf : TIs W vf tf) (hl : TIs W vl tl) (hr : TIs W vr tr) (ht : NIs W vt ns) :
    Calls Tryz.prog 3 #[.int .i64 wd, .int .i64 wd2, .int .i64 cp, vf, vl, vr, vt, .bool tw] W fun e w' => e = .returned (.bool true) ∧ Kept (fun _ => False) W w' := by
  obtain ⟨fo, fc, hfv, _, _⟩ := id hf
  obtain ⟨lo, lc, hlv, _, _⟩ := id hl
  obtain ⟨ro, rc, hrv, _, _⟩ := id hr
  obtain ⟨no, nc, htv, _, _⟩ := id ht
  subst hfv hlv hrv htv
  have HA := hid_of (made_bad wd cp W hL h.1)
  have HB : Hid (∀ w1, Kept (fun _ => False) W w1 → Calls Tryz.prog 4 #[.int .i64 wd2, .int .i64 cp] w1 fun e w' => e = .returned (.tuple #[.pointer none, .bool true]) ∧ Kept (fun _ => False) w1 w') := fun w1 hk => made_bad wd2 cp w1 (laid_kept hL hk (fun f => f)) h.2
  clear h hf hl hr ht
  go_enter Tryz.func3, Tryz.ntmps3
  go_wp2_with fail
  refine HA.out.mono ?_
  rintro e w1 ⟨rfl, hk1⟩
  clear HA
  go_wp2_with fail
  refine (HB.out w1 hk1).mono ?_
  rintro e w2 ⟨rfl, hk2⟩
  have HKF := hid_of (hk1.trans hk2)
  clear hk1 hk2
  clear HB
  go_wp2
  go_ret
  exact ⟨rfl, HKF.out⟩
set_option maxHeartbeats 4000000 in
theorem apart_bo (wd wd2 cp : Int) (vf vl vr vt : Value) (tw : Bool) (tf tl tr : List Stp) (ns : List Int) (W : World) (h : ¬ ((1 ≤ wd ∧ wd ≤ 32) ∧ 0 ≤ cp ∧ cp ≤ 67108864) ∧ ((1 ≤ wd2 ∧ wd2 ≤ 32) ∧ 0 ≤ cp ∧ cp ≤ 67108864)) (hL : Laid W) (hf : TIs W vf tf) (hl : TIs W vl tl) (hr : TIs W vr tr) (ht : NIs W vt ns) :
    Calls Tryz.prog 3 #[.int .i64 wd, .int .i64 wd2, .int .i64 cp, vf, vl, vr, vt, .bool tw] W fun e w' => e = .returned (.bool true) ∧ Kept (fun _ => False) W w' := by
  obtain ⟨fo, fc, hfv, _, _⟩ := id hf
  obtain ⟨lo, lc, hlv, _, _⟩ := id hl
  obtain ⟨ro, rc, hrv, _, _⟩ := id hr
  obtain ⟨no, nc, htv, _, _⟩ := id ht
  subst hfv hlv hrv htv
  have HA := hid_of (made_bad wd cp W hL h.1)
  have HB : Hid (∀ w1, Kept (fun _ => False) W w1 → Calls Tryz.prog 4 #[.int .i64 wd2, .int .i64 cp] w1 fun e w' => e = .returned (.tuple #[.pointer (some ⟨w1.heap.size + 1 + 1, 0, none⟩), .bool true]) ∧ Kept (fun _ => False) w1 w') := fun w1 hk => (made_ok wd2 cp w1 h.2.1.1 h.2.1.2 h.2.2.1 h.2.2.2).mono fun e w' hh => ⟨hh.1, by rw [hh.2]; exact (((Kept.refl _ w1).alloc _).alloc _).alloc _⟩
  clear h hf hl hr ht
  go_enter Tryz.func3, Tryz.ntmps3
  go_wp2_with fail
  refine HA.out.mono ?_
  rintro e w1 ⟨rfl, hk1⟩
  clear HA
  go_wp2_with fail
  refine (HB.out w1 hk1).mono ?_
  rintro e w2 ⟨rfl, hk2⟩
  have HKF := hid_of (hk1.trans hk2)
  clear hk1 hk2
  clear HB
  go_wp2
  go_ret
  exact ⟨rfl, HKF.out⟩
set_option maxHeartbeats 4000000 in
theorem apart_ob (wd wd2 cp : Int) (vf vl vr vt : Value) (tw : Bool) (tf tl tr : List Stp) (ns : List Int) (W : World) (h : ((1 ≤ wd ∧ wd ≤ 32) ∧ 0 ≤ cp ∧ cp ≤ 67108864) ∧ ¬ ((1 ≤ wd2 ∧ wd2 ≤ 32) ∧ 0 ≤ cp ∧ cp ≤ 67108864)) (hL : Laid W) (hf : TIs W vf tf) (hl : TIs W vl tl) (hr : TIs W vr tr) (ht : NIs W vt ns) :
    Calls Tryz.prog 3 #[.int .i64 wd, .int .i64 wd2, .int .i64 cp, vf, vl, vr, vt, .bool tw] W fun e w' => e = .returned (.bool true) ∧ Kept (fun _ => False) W w' := by
  obtain ⟨fo, fc, hfv, _, _⟩ := id hf
  obtain ⟨lo, lc, hlv, _, _⟩ := id hl
  obtain ⟨ro, rc, hrv, _, _⟩ := id hr
  obtain ⟨no, nc, htv, _, _⟩ := id ht
  subst hfv hlv hrv htv
  have HA : Hid (Calls Tryz.prog 4 #[.int .i64 wd, .int .i64 cp] W fun e w' => e = .returned (.tuple #[.pointer (some ⟨W.heap.size + 1 + 1, 0, none⟩), .bool true]) ∧ Kept (fun _ => False) W w') := (made_ok wd cp W h.1.1.1 h.1.1.2 h.1.2.1 h.1.2.2).mono fun e w' hh => ⟨hh.1, by rw [hh.2]; exact (((Kept.refl _ W).alloc _).alloc _).alloc _⟩
  have HB : Hid (∀ w1, Kept (fun _ => False) W w1 → Calls Tryz.prog 4 #[.int .i64 wd2, .int .i64 cp] w1 fun e w' => e = .returned (.tuple #[.pointer none, .bool true]) ∧ Kept (fun _ => False) w1 w') := fun w1 hk => made_bad wd2 cp w1 (laid_kept hL hk (fun f => f)) h.2
  clear h hf hl hr ht
  go_enter Tryz.func3, Tryz.ntmps3
  go_wp2_with fail
  refine HA.out.mono ?_
  rintro e w1 ⟨rfl, hk1⟩
  clear HA
  go_wp2_with fail
  refine (HB.out w1 hk1).mono ?_
  rintro e w2 ⟨rfl, hk2⟩
  have HKF := hid_of (hk1.trans hk2)
  clear hk1 hk2
  clear HB
  go_wp2
  go_ret
  exact ⟨rfl, HKF.out⟩
theorem PlT.more {W wr : World} {ka na ga ra kb nb gb rb na' nb' : Nat} (h : PlT W wr ka na ga ra kb nb gb rb) (h1 : na ≤ na') (h2 : nb ≤ nb') : PlT W wr ka na' ga ra kb nb' gb rb := by
  obtain ⟨_, _, _, _, _, _, _, _, _, _, _, _, _, _, h3, h4, h5, hk⟩ := h
  exact ⟨_, _, _, _, _, _, _, _, _, _, _, _, _, _, h3.more h1, h4.more h2, h5, hk⟩
set_option maxHeartbeats 16000000 in
theorem apart_ok (wd wd2 cp : Int) (vf vl vr vt : Value) (tw : Bool) (tf tl tr : List Stp) (ns : List Int) (W : World) (h : ((1 ≤ wd ∧ wd ≤ 32) ∧ 0 ≤ cp ∧ cp ≤ 67108864) ∧ ((1 ≤ wd2 ∧ wd2 ≤ 32) ∧ 0 ≤ cp ∧ cp ≤ 67108864)) (hL : Laid W) (hf : TIs W vf tf) (hl : TIs W vl tl) (hr : TIs W vr tr) (ht : NIs W vt ns) :
    Calls Tryz.prog 3 #[.int .i64 wd, .int .i64 wd2, .int .i64 cp, vf, vl, vr, vt, .bool tw] W fun e w' => e = .returned (.bool true) ∧ Kept (fun _ => False) W w' := by
  obtain ⟨fo, fc, hfv, hfm, _⟩ := id hf
  obtain ⟨lo, lc, hlv, hlm, _⟩ := id hl
  obtain ⟨ro, rc, hrv, hrm, _⟩ := id hr
  obtain ⟨no, nc, htv, htm, _⟩ := id ht
  subst hfv hlv hrv htv
  obtain ⟨k, hk⟩ : ∃ k : Nat, wd = (k : Int) := ⟨wd.toNat, by have := h.1.1.1; omega⟩
  obtain ⟨k2, hk2⟩ : ∃ k2 : Nat, wd2 = (k2 : Int) := ⟨wd2.toNat, by have := h.2.1.1; omega⟩
  subst hk hk2
  have HF := hid_of hf
  have HLL := hid_of hl
  have HRR := hid_of hr
  have HN := hid_of ht
  have HMA := hid_of (made_ok k cp W h.1.1.1 h.1.1.2 h.1.2.1 h.1.2.2)
  obtain ⟨w1, hw1⟩ : ∃ w1, w1 = (((W.alloc (.cells ((Sg.new k cp).cells (.map none)) 58)).alloc (.cells ((Rg.new k cp).cells (.slice none 0 0)) 45)).alloc (.cells (wcells W.heap.size (W.heap.size + 1) (.slice none 0 0)) 36)) := ⟨_, rfl⟩
  rw [← hw1] at HMA
  have HMB := hid_of (made_ok k2 cp w1 h.2.1.1 h.2.1.2 h.2.2.1 h.2.2.2)
  have HP0 := hid_of (plt_new k (by have := h.1.1.1; omega) (by have := h.1.1.2; omega) k2 (by have := h.2.1.1; omega) (by have := h.2.1.2; omega) cp h.2.2.2 hL hw1)
  generalize (((w1.alloc (.cells ((Sg.new k2 cp).cells (.map none)) 58)).alloc (.cells ((Rg.new k2 cp).cells (.slice none 0 0)) 45)).alloc (.cells (wcells w1.heap.size (w1.heap.size + 1) (.slice none 0 0)) 36)) = wN at *
  obtain ⟨ga, hga⟩ : ∃ g, g = W.heap.size + 1 + 1 := ⟨_, rfl⟩
  obtain ⟨ra, hra⟩ : ∃ g, g = W.heap.size + 1 := ⟨_, rfl⟩
  obtain ⟨gb, hgb⟩ : ∃ g, g = w1.heap.size + 1 + 1 := ⟨_, rfl⟩
  obtain ⟨rb, hrb⟩ : ∃ g, g = w1.heap.size + 1 := ⟨_, rfl⟩
  rw [← hga] at HMA HP0
  rw [← hgb] at HMB HP0
  rw [← hra] at HP0
  rw [← hrb] at HP0
  clear hga hra hgb hrb hw1 h hf hl hr ht hL
  go_enter Tryz.func3, Tryz.ntmps3
  go_wp2_with fail
  refine HMA.out.mono ?_
  rintro e w2 ⟨rfl, rfl⟩
  clear HMA
  go_wp2_with fail
  refine HMB.out.mono ?_
  rintro e w3 ⟨rfl, rfl⟩
  clear HMB
  go_upto_block 0 with fail
  go_cut [] (fun wx => Hid (PlT W wx k 600 ga ra k2 600 gb rb))
  case first =>
    go_wp2_with fail
    go_loopw [21] (fun i wr => ∃ (j : Nat), j ≤ tf.length ∧ j ≤ 300 ∧ i = .int .i64 j ∧ Hid (PlT W wr k (2 * j) ga ra k2 0 gb rb)) (fun i _ => tf.length - (intOf i).toNat)
    case atStart => exact ⟨0, by omega, by omega, rfl, HP0⟩
    case round =>
      clear HP0
      obtain ⟨j, hj, hj3, rfl, HPL⟩ := hrel
      have HMO : Hid (PlT W wr k 600 ga ra k2 600 gb rb) := HPL.out.more (by omega) (by omega)
      by_cases hlt : j < tf.length
      · have hjI : (j : Int) < (tf.length : Int) := by omega
        by_cases hlt3 : j < 300
        · have hj3I : (j : Int) < 300 := by omega
          obtain ⟨t, htj⟩ : ∃ t, tf[j]? = some t := ⟨_, List.getElem?_eq_getElem (by omega)⟩
          obtain ⟨_, _, _, _, hall0⟩ := HF.out
          have hOk := (hall0 j t htj).1
          obtain ⟨ao', cap', hv', _, hall⟩ := HF.out.stays HPL.out.kept
          cases hv'
          obtain ⟨_, gg, o, hao, hr⟩ := hall j t htj
          subst hao
          have hi31 : (Tryz.prog.info? 32).map (·.size) = some t.cells.length := by rw [Stp.clen hOk.dl]; exact size31s
          have HR := hid_of hr
          have HST := hid_of (HPL.out.step (by omega) t hOk)
          clear hall hall0 hr hOk htj
          go_wp2_with (refine wpList_load_mid rfl 32 _ rfl gg (o + j * 37) rfl t.cells _ HR.out Tryz.underlying32 rfl hi31 ?_)
          refine HST.out.mono ?_
          rintro e w5 ⟨rfl, hto⟩
          have HNX : Hid (PlT W w5 k (2 * (j + 1)) ga ra k2 0 gb rb) := hto
          clear hto HST HR HMO HPL
          go_wp2
          go_roundw
          case rel => exact ⟨j + 1, by omega, by omega, by go_num, HNX⟩
          case measure => simp [intOf]; omega
        · have hj3I : ¬ (j : Int) < 300 := by omega
          go_wp2
          go_meet
          exact HMO
      · have hjI : ¬ (j : Int) < (tf.length : Int) := by omega
        go_wp2
        go_meet
        exact HMO
  case rest =>
    have HPL := hcut
    clear hcut HP0
    go_upto_if 73 with fail
    go_cut [19] (fun v19 wx => ∃ kb gb' rb' : Nat, v19 = .pointer (some ⟨gb', 0, none⟩) ∧ Hid (PlT W wx k 600 ga ra kb 600 gb' rb'))
    case first =>
      cases tw with
      | false =>
        go_wp2
        go_meet
        exact ⟨k2, gb, rb, rfl, HPL⟩
      | true =>
        as_aux_lemma =>
          go_upto_region 11 with fail
          obtain ⟨sa, hga, htw⟩ := HPL.out.twins
          have HGA := hid_of hga
          have HTW := hid_of htw
          clear hga htw HPL
          refine wp_region_held_drew (S := fun w' => Kept (fun _ => False) wc w') (by kernel_rfl) ((Kept.refl _ _).drew) (fun hHeld => ?_)
          refine tkp (v := ?_) 0 rfl ?_ ?_; rotate_left 1
          · intro w hSw; obtain ⟨s1, s2⟩ := HGA.out w hSw; go_simp; try with_reducible rfl
          try simp only [Act.put, tdy]
          refine tkp (v := ?_) 1 rfl ?_ ?_; rotate_left 1
          · intro w hSw; obtain ⟨s1, s2⟩ := HGA.out w hSw; go_simp; try with_reducible rfl
          try simp only [Act.put, tdy]
          refine tkp (v := ?_) 2 rfl ?_ ?_; rotate_left 1
          · intro w hSw; obtain ⟨s1, s2⟩ := HGA.out w hSw; go_simp; try with_reducible rfl
          try simp only [Act.put, tdy]
          refine tkp (v := ?_) 3 rfl ?_ ?_; rotate_left 1
          · intro w hSw; obtain ⟨s1, s2⟩ := HGA.out w hSw; go_simp; try with_reducible rfl
          try simp only [Act.put, tdy]
          refine tkp (v := ?_) 5 rfl ?_ ?_; rotate_left 1
          · intro w hSw; obtain ⟨s1, s2⟩ := HGA.out w hSw; go_simp; try with_reducible rfl
          try simp only [Act.put, tdy]
          refine tkp (v := ?_) 6 rfl ?_ ?_; rotate_left 1
          · intro w hSw; obtain ⟨s1, s2⟩ := HGA.out w hSw; go_simp; try with_reducible rfl
          try simp only [Act.put, tdy]
          refine tkp (v := ?_) 7 rfl ?_ ?_; rotate_left 1
          · intro w hSw; obtain ⟨s1, s2⟩ := HGA.out w hSw; go_simp; try with_reducible rfl
          try simp only [Act.put, tdy]
          refine tkp (v := ?_) 8 rfl ?_ ?_; rotate_left 1
          · intro w hSw; obtain ⟨s1, s2⟩ := HGA.out w hSw; go_simp; try with_reducible rfl
          try simp only [Act.put, tdy]
          refine wpAnyH_ready (rs := [4]) (by kernel_rfl) (by simp) ?_
          refine AllReadyH.cons rfl (fun K hK => ?_) AllReadyH.nil
          go_simp
          refine (HTW.out _ hHeld).mono ?_
          rintro e w2 ⟨rfl, hk2, htw2⟩
          have HK2 : Hid (Kept (fun _ => False) wc w2) := hHeld.trans hk2
          have HTW2 := hid_of htw2
          clear hk2 htw2 HTW
          refine hK.out _ _ HK2.out (fun hHeld => ?_)
          clear hK K
          try simp only [Act.put, tdy]
          refine wpAnyH_ready (rs := [9]) (by kernel_rfl) (by simp) ?_
          refine AllReadyH.cons rfl (fun K hK => ?_) AllReadyH.nil
          go_simp
          refine (HTW2.out _ (Kept.refl _ _)).mono ?_
          rintro e w3 ⟨rfl, hk3, htw3⟩
          have HK3 : Hid (Kept (fun _ => False) wc w3) := HK2.out.trans hk3
          have HPB : Hid (PlT W (w3.alloc (.cells #[.pointer (some ⟨wc.heap.size, 0, none⟩), .pointer (some ⟨w2.heap.size, 0, none⟩), .slice none 0 0] 36)) k 600 ga ra k 600 w3.heap.size w2.heap.size) := htw3 w3 (Kept.refl _ _)
          clear hk3 htw3 HTW2
          refine hK.out _ _ HK3.out (fun hHeld => ?_)
          clear hK K
          try simp only [Act.put, tdy]
          refine tkp (v := ?_) 10 rfl ?_ ?_; rotate_left 1
          · intro w hSw; obtain ⟨s1, s2⟩ := HGA.out w hSw; go_simp; try with_reducible rfl
          try simp only [Act.put, tdy]
          refine wpAnyH_ready (rs := [11]) (by kernel_rfl) (by simp) ?_
          refine AllReadyH.cons rfl (fun K hK => ?_) AllReadyH.nil
          go_simp
          refine hK.out _ _ (HK3.out.alloc _) (fun hHeld => ?_)
          clear hK K
          try simp only [Act.put, tdy]
          refine tkp (v := ?_) 12 rfl ?_ ?_; rotate_left 1
          · intro w hSw; go_simp; try with_reducible rfl
          try simp only [Act.put, tdy]
          refine wpAnyH_done (by kernel_rfl) ?_ _
          clear hHeld
          go_upto_region 12 with fail
          generalize w3.alloc (.cells #[.pointer (some ⟨wc.heap.size, 0, none⟩), .pointer (some ⟨w2.heap.size, 0, none⟩), .slice none 0 0] 36) = w4 at *
          obtain ⟨_, ⟨sb, pb, qb, hsb⟩, _⟩ := HPB.out.see (by omega) (by omega)
          have HGB := hid_of hsb.1
          have HALb := hid_of hsb.2.1
          clear hsb
          refine wp_region_held_drew (S := fun w' => Kept (fun _ => False) w4 w') (by kernel_rfl) ((Kept.refl _ _).drew) (fun hHeld => ?_)
          refine tkp (v := ?_) 0 rfl ?_ ?_; rotate_left 1
          · intro w hSw; obtain ⟨s3, s4⟩ := HGB.out w hSw; go_simp; try with_reducible rfl
          try simp only [Act.put, tdy]
          refine tkp (v := ?_) 1 rfl ?_ ?_; rotate_left 1
          · intro w hSw; obtain ⟨s3, s4⟩ := HGB.out w hSw; go_simp; try with_reducible rfl
          try simp only [Act.put, tdy]
          refine tkp (v := ?_) 2 rfl ?_ ?_; rotate_left 1
          · intro w hSw; obtain ⟨s3, s4⟩ := HGB.out w hSw; go_simp; try with_reducible rfl
          try simp only [Act.put, tdy]
          refine tkp (v := ?_) 3 rfl ?_ ?_; rotate_left 1
          · intro w hSw; obtain ⟨s3, s4⟩ := HGB.out w hSw; go_simp; try with_reducible rfl
          try simp only [Act.put, tdy]
          refine tkp (v := ?_) 4 rfl ?_ ?_; rotate_left 1
          · intro w hSw; obtain ⟨s3, s4⟩ := HGB.out w hSw; go_simp; try with_reducible rfl
          try simp only [Act.put, tdy]
          refine tkp (v := ?_) 5 rfl ?_ ?_; rotate_left 1
          · intro w hSw; obtain ⟨s3, s4⟩ := HGB.out w hSw; go_simp; try with_reducible rfl
          try simp only [Act.put, tdy]
          refine tkp (v := ?_) 6 rfl ?_ ?_; rotate_left 1
          · intro w hSw; obtain ⟨s3, s4⟩ := HGB.out w hSw; go_simp; try with_reducible rfl
          try simp only [Act.put, tdy]
          refine tkp (v := ?_) 7 rfl ?_ ?_; rotate_left 1
          · intro w hSw; obtain ⟨s3, s4⟩ := HGB.out w hSw; go_simp; try with_reducible rfl
          try simp only [Act.put, tdy]
          refine tkp (v := ?_) 8 rfl ?_ ?_; rotate_left 1
          · intro w hSw; obtain ⟨s3, s4⟩ := HGB.out w hSw; go_simp; try with_reducible rfl
          try simp only [Act.put, tdy]
          refine tkp (v := ?_) 9 rfl ?_ ?_; rotate_left 1
          · intro w hSw; obtain ⟨s3, s4⟩ := HGB.out w hSw; go_simp; try with_reducible rfl
          try simp only [Act.put, tdy]
          refine tkp (v := ?_) 10 rfl ?_ ?_; rotate_left 1
          · intro w hSw; obtain ⟨s3, s4⟩ := HGB.out w hSw; go_simp; try with_reducible rfl
          try simp only [Act.put, tdy]
          refine tkp (v := ?_) 11 rfl ?_ ?_; rotate_left 1
          · intro w hSw; obtain ⟨s3, s4⟩ := HGB.out w hSw; go_simp; try with_reducible rfl
          try simp only [Act.put, tdy]
          refine tkp (v := ?_) 12 rfl ?_ ?_; rotate_left 1
          · intro w hSw; obtain ⟨s3, s4⟩ := HGB.out w hSw; go_simp; try with_reducible rfl
          try simp only [Act.put, tdy]
          refine tkp (v := ?_) 13 rfl ?_ ?_; rotate_left 1
          · intro w hSw; obtain ⟨s3, s4⟩ := HGB.out w hSw; go_simp; try with_reducible rfl
          try simp only [Act.put, tdy]
          refine wpAnyH_ready (rs := [14]) (by kernel_rfl) (by simp) ?_
          refine AllReadyH.cons rfl (fun K hK => ?_) AllReadyH.nil
          go_simp
          refine (HALb.out _ hHeld).mono ?_
          rintro e w5 ⟨rfl, hk5⟩
          have HK5 : Hid (Kept (fun _ => False) w4 w5) := hHeld.trans hk5
          clear hk5 HALb
          refine hK.out _ _ HK5.out (fun hHeld => ?_)
          clear hK K
          try simp only [Act.put, tdy]
          refine tkp (v := ?_) 15 rfl ?_ ?_; rotate_left 1
          · intro w hSw; obtain ⟨s3, s4⟩ := HGB.out w hSw; go_simp; try with_reducible rfl
          try simp only [Act.put, tdy]
          refine tkp (v := ?_) 16 rfl ?_ ?_; rotate_left 1
          · intro w hSw; obtain ⟨s3, s4⟩ := HGB.out w hSw; go_simp; try with_reducible rfl
          try simp only [Act.put, tdy]
          refine wpAnyH_done (by kernel_rfl) ?_ _
          clear hHeld
          have HPE := hid_of (HPB.out.same HK5.out)
          clear HPB HK5 HGB
          go_wp2
          go_meet
          exact ⟨k, _, _, rfl, HPE⟩
    case rest =>
      clear HPL
      obtain ⟨kb, gb', rb', rfl, HPL⟩ := hcut
      go_upto_block 2 with fail
      go_cut [] (fun wx => Hid (PlT W wx k 1200 ga ra kb 1200 gb' rb'))
      case first =>
        go_wp2_with fail
        go_loopw [22, 23, 24] (fun i j n wr => ∃ (a b c : Nat), a + b = c ∧ a ≤ tl.length ∧ b ≤ tr.length ∧ c ≤ 300 ∧ i = .int .i64 a ∧ j = .int .i64 b ∧ n = .int .i64 c ∧ Hid (PlT W wr k (600 + 2 * c) ga ra kb (600 + 2 * c) gb' rb')) (fun _ _ n _ => 300 - (intOf n).toNat)
        case atStart => exact ⟨0, 0, 0, rfl, by omega, by omega, by omega, rfl, rfl, rfl, HPL⟩
        case round =>
          clear HPL
          obtain ⟨a, b, c, habc, hal, hbl, hc3, rfl, rfl, rfl, HPL⟩ := hrel
          have HMO : Hid (PlT W wr k 1200 ga ra kb 1200 gb' rb') := HPL.out.more (by omega) (by omega)
          by_cases hc : c < 300
          · have hcI : (c : Int) < 300 := by omega
            by_cases ha : a < tl.length
            · by_cases hb : b < tr.length
              · by_cases hns : ns.length = 0
                · as_aux_lemma =>
                    have hnI : ¬ (0 : Int) < (ns.length : Int) := by omega
                    clear hns
                    have haI : (a : Int) < (tl.length : Int) := by omega
                    have haJ : ¬ (tl.length : Int) ≤ (a : Int) := by omega
                    have hbI : (b : Int) < (tr.length : Int) := by omega
                    obtain ⟨t, htj⟩ : ∃ t, tl[a]? = some t := ⟨_, List.getElem?_eq_getElem (by omega)⟩
                    obtain ⟨_, _, _, _, hall0⟩ := HLL.out
                    have hOk := (hall0 a t htj).1
                    obtain ⟨ao', cap', hv', _, hall⟩ := HLL.out.stays HPL.out.kept
                    cases hv'
                    obtain ⟨_, gg, o, hao, hr⟩ := hall a t htj
                    subst hao
                    have hi31 : (Tryz.prog.info? 32).map (·.size) = some t.cells.length := by rw [Stp.clen hOk.dl]; exact size31s
                    have HR := hid_of hr
                    have HST := hid_of (HPL.out.step (by omega) t hOk)
                    clear hall hall0 hr hOk htj
                    go_wp2_with (refine wpList_load_mid rfl 32 _ rfl gg (o + a * 37) rfl t.cells _ HR.out Tryz.underlying32 rfl hi31 ?_)
                    refine HST.out.mono ?_
                    rintro e w5 ⟨rfl, hto⟩
                    have HNX : Hid (PlT W w5 k (600 + 2 * (c + 1)) ga ra kb (600 + 2 * (c + 1)) gb' rb') := hto.more (by omega) (by omega)
                    clear hto HST HR HMO HPL
                    go_wp2
                    go_roundw
                    case rel => exact ⟨a + 1, b, c + 1, by omega, by omega, by omega, by omega, by go_num, rfl, by go_num, HNX⟩
                    case measure => simp [intOf]; omega
                · have hnI : (0 : Int) < (ns.length : Int) := by omega
                  have hmlt : c % ns.length < ns.length := Nat.mod_lt _ (by omega)
                  obtain ⟨m, hm⟩ : ∃ m, m = c % ns.length := ⟨_, rfl⟩
                  rw [← hm] at hmlt
                  have hmI : (c : Int).tmod (ns.length : Int) = (m : Int) := by rw [hm]; exact (Int.ofNat_tmod c ns.length).symm
                  obtain ⟨x, hx⟩ : ∃ x, ns[m]? = some x := ⟨_, List.getElem?_eq_getElem hmlt⟩
                  obtain ⟨_, _, _, _, hallN⟩ := HN.out
                  obtain ⟨_, _, hvN, _, _⟩ := id HN.out
                  obtain ⟨gN, oN, hno, hcN⟩ := hallN m x hx
                  cases hvN
                  subst hno
                  have hcN2 := HPL.out.kept.cell hcN (fun f => f)
                  have hmL : (m : Int) < (ns.length : Int) := by omega
                  clear hallN hx hcN hm
                  by_cases hx2 : x.tmod 2 = 0
                  · as_aux_lemma =>
                      have haI : (a : Int) < (tl.length : Int) := by omega
                      have haJ : ¬ (tl.length : Int) ≤ (a : Int) := by omega
                      have hbI : (b : Int) < (tr.length : Int) := by omega
                      obtain ⟨t, htj⟩ : ∃ t, tl[a]? = some t := ⟨_, List.getElem?_eq_getElem (by omega)⟩
                      obtain ⟨_, _, _, _, hall0⟩ := HLL.out
                      have hOk := (hall0 a t htj).1
                      obtain ⟨ao', cap', hv', _, hall⟩ := HLL.out.stays HPL.out.kept
                      cases hv'
                      obtain ⟨_, gg, o, hao, hr⟩ := hall a t htj
                      subst hao
                      have hi31 : (Tryz.prog.info? 32).map (·.size) = some t.cells.length := by rw [Stp.clen hOk.dl]; exact size31s
                      have HR := hid_of hr
                      have HST := hid_of (HPL.out.step (by omega) t hOk)
                      clear hall hall0 hr hOk htj
                      go_wp2_with (refine wpList_load_mid rfl 32 _ rfl gg (o + a * 37) rfl t.cells _ HR.out Tryz.underlying32 rfl hi31 ?_)
                      refine HST.out.mono ?_
                      rintro e w5 ⟨rfl, hto⟩
                      have HNX : Hid (PlT W w5 k (600 + 2 * (c + 1)) ga ra kb (600 + 2 * (c + 1)) gb' rb') := hto.more (by omega) (by omega)
                      clear hto HST HR HMO HPL
                      go_wp2
                      go_roundw
                      case rel => exact ⟨a + 1, b, c + 1, by omega, by omega, by omega, by omega, by go_num, rfl, by go_num, HNX⟩
                      case measure => simp [intOf]; omega
                  · as_aux_lemma =>
                      have haI : (a : Int) < (tl.length : Int) := by omega
                      have haJ : ¬ (tl.length : Int) ≤ (a : Int) := by omega
                      have hbI : (b : Int) < (tr.length : Int) := by omega
                      obtain ⟨t, htj⟩ : ∃ t, tr[b]? = some t := ⟨_, List.getElem?_eq_getElem (by omega)⟩
                      obtain ⟨_, _, _, _, hall0⟩ := HRR.out
                      have hOk := (hall0 b t htj).1
                      obtain ⟨ao', cap', hv', _, hall⟩ := HRR.out.stays HPL.out.kept
                      cases hv'
                      obtain ⟨_, gg, o, hao, hr⟩ := hall b t htj
                      subst hao
                      have hi31 : (Tryz.prog.info? 32).map (·.size) = some t.cells.length := by rw [Stp.clen hOk.dl]; exact size31s
                      have HR := hid_of hr
                      have HST := hid_of (HPL.out.swap.step (by omega) t hOk)
                      clear hall hall0 hr hOk htj
                      go_wp2_with (refine wpList_load_mid rfl 32 _ rfl gg (o + b * 37) rfl t.cells _ HR.out Tryz.underlying32 rfl hi31 ?_)
                      refine HST.out.mono ?_
                      rintro e w5 ⟨rfl, hto⟩
                      have HNX : Hid (PlT W w5 k (600 + 2 * (c + 1)) ga ra kb (600 + 2 * (c + 1)) gb' rb') := hto.swap.more (by omega) (by omega)
                      clear hto HST HR HMO HPL
                      go_wp2
                      go_roundw
                      case rel => exact ⟨a, b + 1, c + 1, by omega, by omega, by omega, by omega, rfl, by go_num, by go_num, HNX⟩
                      case measure => simp [intOf]; omega
              · by_cases hns : ns.length = 0
                · as_aux_lemma =>
                    have hnI : ¬ (0 : Int) < (ns.length : Int) := by omega
                    clear hns
                    have haI : (a : Int) < (tl.length : Int) := by omega
                    have haJ : ¬ (tl.length : Int) ≤ (a : Int) := by omega
                    have hbI : ¬ (b : Int) < (tr.length : Int) := by omega
                    obtain ⟨t, htj⟩ : ∃ t, tl[a]? = some t := ⟨_, List.getElem?_eq_getElem (by omega)⟩
                    obtain ⟨_, _, _, _, hall0⟩ := HLL.out
                    have hOk := (hall0 a t htj).1
                    obtain ⟨ao', cap', hv', _, hall⟩ := HLL.out.stays HPL.out.kept
                    cases hv'
                    obtain ⟨_, gg, o, hao, hr⟩ := hall a t htj
                    subst hao
                    have hi31 : (Tryz.prog.info? 32).map (·.size) = some t.cells.length := by rw [Stp.clen hOk.dl]; exact size31s
                    have HR := hid_of hr
                    have HST := hid_of (HPL.out.step (by omega) t hOk)
                    clear hall hall0 hr hOk htj
                    go_wp2_with (refine wpList_load_mid rfl 32 _ rfl gg (o + a * 37) rfl t.cells _ HR.out Tryz.underlying32 rfl hi31 ?_)
                    refine HST.out.mono ?_
                    rintro e w5 ⟨rfl, hto⟩
                    have HNX : Hid (PlT W w5 k (600 + 2 * (c + 1)) ga ra kb (600 + 2 * (c + 1)) gb' rb') := hto.more (by omega) (by omega)
                    clear hto HST HR HMO HPL
                    go_wp2
                    go_roundw
                    case rel => exact ⟨a + 1, b, c + 1, by omega, by omega, by omega, by omega, by go_num, rfl, by go_num, HNX⟩
                    case measure => simp [intOf]; omega
                · have hnI : (0 : Int) < (ns.length : Int) := by omega
                  have hmlt : c % ns.length < ns.length := Nat.mod_lt _ (by omega)
                  obtain ⟨m, hm⟩ : ∃ m, m = c % ns.length := ⟨_, rfl⟩
                  rw [← hm] at hmlt
                  have hmI : (c : Int).tmod (ns.length : Int) = (m : Int) := by rw [hm]; exact (Int.ofNat_tmod c ns.length).symm
                  obtain ⟨x, hx⟩ : ∃ x, ns[m]? = some x := ⟨_, List.getElem?_eq_getElem hmlt⟩
                  obtain ⟨_, _, _, _, hallN⟩ := HN.out
                  obtain ⟨_, _, hvN, _, _⟩ := id HN.out
                  obtain ⟨gN, oN, hno, hcN⟩ := hallN m x hx
                  cases hvN
                  subst hno
                  have hcN2 := HPL.out.kept.cell hcN (fun f => f)
                  have hmL : (m : Int) < (ns.length : Int) := by omega
                  clear hallN hx hcN hm
                  by_cases hx2 : x.tmod 2 = 0
                  · as_aux_lemma =>
                      have haI : (a : Int) < (tl.length : Int) := by omega
                      have haJ : ¬ (tl.length : Int) ≤ (a : Int) := by omega
                      have hbI : ¬ (b : Int) < (tr.length : Int) := by omega
                      obtain ⟨t, htj⟩ : ∃ t, tl[a]? = some t := ⟨_, List.getElem?_eq_getElem (by omega)⟩
                      obtain ⟨_, _, _, _, hall0⟩ := HLL.out
                      have hOk := (hall0 a t htj).1
                      obtain ⟨ao', cap', hv', _, hall⟩ := HLL.out.stays HPL.out.kept
                      cases hv'
                      obtain ⟨_, gg, o, hao, hr⟩ := hall a t htj
                      subst hao
                      have hi31 : (Tryz.prog.info? 32).map (·.size) = some t.cells.length := by rw [Stp.clen hOk.dl]; exact size31s
                      have HR := hid_of hr
                      have HST := hid_of (HPL.out.step (by omega) t hOk)
                      clear hall hall0 hr hOk htj
                      go_wp2_with (refine wpList_load_mid rfl 32 _ rfl gg (o + a * 37) rfl t.cells _ HR.out Tryz.underlying32 rfl hi31 ?_)
                      refine HST.out.mono ?_
                      rintro e w5 ⟨rfl, hto⟩
                      have HNX : Hid (PlT W w5 k (600 + 2 * (c + 1)) ga ra kb (600 + 2 * (c + 1)) gb' rb') := hto.more (by omega) (by omega)
                      clear hto HST HR HMO HPL
                      go_wp2
                      go_roundw
                      case rel => exact ⟨a + 1, b, c + 1, by omega, by omega, by omega, by omega, by go_num, rfl, by go_num, HNX⟩
                      case measure => simp [intOf]; omega
                  · as_aux_lemma =>
                      have haI : (a : Int) < (tl.length : Int) := by omega
                      have haJ : ¬ (tl.length : Int) ≤ (a : Int) := by omega
                      have hbI : ¬ (b : Int) < (tr.length : Int) := by omega
                      obtain ⟨t, htj⟩ : ∃ t, tl[a]? = some t := ⟨_, List.getElem?_eq_getElem (by omega)⟩
                      obtain ⟨_, _, _, _, hall0⟩ := HLL.out
                      have hOk := (hall0 a t htj).1
                      obtain ⟨ao', cap', hv', _, hall⟩ := HLL.out.stays HPL.out.kept
                      cases hv'
                      obtain ⟨_, gg, o, hao, hr⟩ := hall a t htj
                      subst hao
                      have hi31 : (Tryz.prog.info? 32).map (·.size) = some t.cells.length := by rw [Stp.clen hOk.dl]; exact size31s
                      have HR := hid_of hr
                      have HST := hid_of (HPL.out.step (by omega) t hOk)
                      clear hall hall0 hr hOk htj
                      go_wp2_with (refine wpList_load_mid rfl 32 _ rfl gg (o + a * 37) rfl t.cells _ HR.out Tryz.underlying32 rfl hi31 ?_)
                      refine HST.out.mono ?_
                      rintro e w5 ⟨rfl, hto⟩
                      have HNX : Hid (PlT W w5 k (600 + 2 * (c + 1)) ga ra kb (600 + 2 * (c + 1)) gb' rb') := hto.more (by omega) (by omega)
                      clear hto HST HR HMO HPL
                      go_wp2
                      go_roundw
                      case rel => exact ⟨a + 1, b, c + 1, by omega, by omega, by omega, by omega, by go_num, rfl, by go_num, HNX⟩
                      case measure => simp [intOf]; omega
            · by_cases hb : b < tr.length
              · by_cases hns : ns.length = 0
                · as_aux_lemma =>
                    have hnI : ¬ (0 : Int) < (ns.length : Int) := by omega
                    clear hns
                    have haI : ¬ (a : Int) < (tl.length : Int) := by omega
                    have haJ : (tl.length : Int) ≤ (a : Int) := by omega
                    have hbI : (b : Int) < (tr.length : Int) := by omega
                    obtain ⟨t, htj⟩ : ∃ t, tr[b]? = some t := ⟨_, List.getElem?_eq_getElem (by omega)⟩
                    obtain ⟨_, _, _, _, hall0⟩ := HRR.out
                    have hOk := (hall0 b t htj).1
                    obtain ⟨ao', cap', hv', _, hall⟩ := HRR.out.stays HPL.out.kept
                    cases hv'
                    obtain ⟨_, gg, o, hao, hr⟩ := hall b t htj
                    subst hao
                    have hi31 : (Tryz.prog.info? 32).map (·.size) = some t.cells.length := by rw [Stp.clen hOk.dl]; exact size31s
                    have HR := hid_of hr
                    have HST := hid_of (HPL.out.swap.step (by omega) t hOk)
                    clear hall hall0 hr hOk htj
                    go_wp2_with (refine wpList_load_mid rfl 32 _ rfl gg (o + b * 37) rfl t.cells _ HR.out Tryz.underlying32 rfl hi31 ?_)
                    refine HST.out.mono ?_
                    rintro e w5 ⟨rfl, hto⟩
                    have HNX : Hid (PlT W w5 k (600 + 2 * (c + 1)) ga ra kb (600 + 2 * (c + 1)) gb' rb') := hto.swap.more (by omega) (by omega)
                    clear hto HST HR HMO HPL
                    go_wp2
                    go_roundw
                    case rel => exact ⟨a, b + 1, c + 1, by omega, by omega, by omega, by omega, rfl, by go_num, by go_num, HNX⟩
                    case measure => simp [intOf]; omega
                · have hnI : (0 : Int) < (ns.length : Int) := by omega
                  have hmlt : c % ns.length < ns.length := Nat.mod_lt _ (by omega)
                  obtain ⟨m, hm⟩ : ∃ m, m = c % ns.length := ⟨_, rfl⟩
                  rw [← hm] at hmlt
                  have hmI : (c : Int).tmod (ns.length : Int) = (m : Int) := by rw [hm]; exact (Int.ofNat_tmod c ns.length).symm
                  obtain ⟨x, hx⟩ : ∃ x, ns[m]? = some x := ⟨_, List.getElem?_eq_getElem hmlt⟩
                  obtain ⟨_, _, _, _, hallN⟩ := HN.out
                  obtain ⟨_, _, hvN, _, _⟩ := id HN.out
                  obtain ⟨gN, oN, hno, hcN⟩ := hallN m x hx
                  cases hvN
                  subst hno
                  have hcN2 := HPL.out.kept.cell hcN (fun f => f)
                  have hmL : (m : Int) < (ns.length : Int) := by omega
                  clear hallN hx hcN hm
                  by_cases hx2 : x.tmod 2 = 0
                  · as_aux_lemma =>
                      have haI : ¬ (a : Int) < (tl.length : Int) := by omega
                      have haJ : (tl.length : Int) ≤ (a : Int) := by omega
                      have hbI : (b : Int) < (tr.length : Int) := by omega
                      obtain ⟨t, htj⟩ : ∃ t, tr[b]? = some t := ⟨_, List.getElem?_eq_getElem (by omega)⟩
                      obtain ⟨_, _, _, _, hall0⟩ := HRR.out
                      have hOk := (hall0 b t htj).1
                      obtain ⟨ao', cap', hv', _, hall⟩ := HRR.out.stays HPL.out.kept
                      cases hv'
                      obtain ⟨_, gg, o, hao, hr⟩ := hall b t htj
                      subst hao
                      have hi31 : (Tryz.prog.info? 32).map (·.size) = some t.cells.length := by rw [Stp.clen hOk.dl]; exact size31s
                      have HR := hid_of hr
                      have HST := hid_of (HPL.out.swap.step (by omega) t hOk)
                      clear hall hall0 hr hOk htj
                      go_wp2_with (refine wpList_load_mid rfl 32 _ rfl gg (o + b * 37) rfl t.cells _ HR.out Tryz.underlying32 rfl hi31 ?_)
                      refine HST.out.mono ?_
                      rintro e w5 ⟨rfl, hto⟩
                      have HNX : Hid (PlT W w5 k (600 + 2 * (c + 1)) ga ra kb (600 + 2 * (c + 1)) gb' rb') := hto.swap.more (by omega) (by omega)
                      clear hto HST HR HMO HPL
                      go_wp2
                      go_roundw
                      case rel => exact ⟨a, b + 1, c + 1, by omega, by omega, by omega, by omega, rfl, by go_num, by go_num, HNX⟩
                      case measure => simp [intOf]; omega
                  · as_aux_lemma =>
                      have haI : ¬ (a : Int) < (tl.length : Int) := by omega
                      have haJ : (tl.length : Int) ≤ (a : Int) := by omega
                      have hbI : (b : Int) < (tr.length : Int) := by omega
                      obtain ⟨t, htj⟩ : ∃ t, tr[b]? = some t := ⟨_, List.getElem?_eq_getElem (by omega)⟩
                      obtain ⟨_, _, _, _, hall0⟩ := HRR.out
                      have hOk := (hall0 b t htj).1
                      obtain ⟨ao', cap', hv', _, hall⟩ := HRR.out.stays HPL.out.kept
                      cases hv'
                      obtain ⟨_, gg, o, hao, hr⟩ := hall b t htj
                      subst hao
                      have hi31 : (Tryz.prog.info? 32).map (·.size) = some t.cells.length := by rw [Stp.clen hOk.dl]; exact size31s
                      have HR := hid_of hr
                      have HST := hid_of (HPL.out.swap.step (by omega) t hOk)
                      clear hall hall0 hr hOk htj
                      go_wp2_with (refine wpList_load_mid rfl 32 _ rfl gg (o + b * 37) rfl t.cells _ HR.out Tryz.underlying32 rfl hi31 ?_)
                      refine HST.out.mono ?_
                      rintro e w5 ⟨rfl, hto⟩
                      have HNX : Hid (PlT W w5 k (600 + 2 * (c + 1)) ga ra kb (600 + 2 * (c + 1)) gb' rb') := hto.swap.more (by omega) (by omega)
                      clear hto HST HR HMO HPL
                      go_wp2
                      go_roundw
                      case rel => exact ⟨a, b + 1, c + 1, by omega, by omega, by omega, by omega, rfl, by go_num, by go_num, HNX⟩
                      case measure => simp [intOf]; omega
              · have haI : ¬ (a : Int) < (tl.length : Int) := by omega
                have hbI : ¬ (b : Int) < (tr.length : Int) := by omega
                go_wp2
                go_meet
                exact HMO
          · have hcI : ¬ (c : Int) < 300 := by omega
            go_wp2
            go_meet
            exact HMO
      case rest =>
        clear HPL
        have HPL := hcut
        clear hcut
        as_aux_lemma =>
          obtain ⟨⟨sa, pa, qa, hsa⟩, ⟨sb, pb, qb, hsb⟩, hlaid⟩ := HPL.out.see (by omega) (by omega)
          have HGA := hid_of hsa.1
          have HGB := hid_of hsb.1
          have HALa := hid_of hsa.2.1
          have HALb := hid_of hsb.2.1
          have HCOa := hid_of hsa.2.2.1
          have HCOb := hid_of hsb.2.2.1
          have HMIa := hid_of hsa.2.2.2
          have HMIb := hid_of hsb.2.2.2
          have HEQa := eq38 pa qa
          have HEQb := eq38 pb qb
          have HHD : Hid (∀ W', Kept (fun _ => False) wc W' → Calls Tryz.prog 10 #[] W' fun e w' => e = .returned (.bool true) ∧ Kept (fun _ => False) W' w') := fun W' hW' => head_any W' (laid_kept (S := fun _ => False) hlaid hW' (fun f => f))
          have HKP := hid_of HPL.out.kept
          clear hsa hsb hlaid HPL
          obtain ⟨lsa, hlsa⟩ : ∃ l, l = [Value.int .i64 pa, Value.int .i64 qa] := ⟨_, rfl⟩
          obtain ⟨laa, hlaa⟩ : ∃ l, l = #[Value.int .i64 pa, Value.int .i64 qa] := ⟨_, rfl⟩
          obtain ⟨lsb, hlsb⟩ : ∃ l, l = [Value.int .i64 pb, Value.int .i64 qb] := ⟨_, rfl⟩
          obtain ⟨lab, hlab⟩ : ∃ l, l = #[Value.int .i64 pb, Value.int .i64 qb] := ⟨_, rfl⟩
          have HLAa : Hid (lsa.toArray = laa) := by show _ = _; rw [hlsa, hlaa]
          have HLAb : Hid (lsb.toArray = lab) := by show _ = _; rw [hlsb, hlab]
          have hsla : (Tryz.prog.info? 41).map (·.size) = some lsa.length := by rw [hlsa]; exact size38s
          have hslb : (Tryz.prog.info? 41).map (·.size) = some lsb.length := by rw [hlsb]; exact size38s
          rw [← hlaa] at HEQa HCOa
          rw [← hlab] at HEQb HCOb
          rw [← hlsa] at HMIa
          rw [← hlsb] at HMIb
          clear hlsa hlaa hlsb hlab
          go_upto_region 26 with fail
          refine wp_region_held_drew (S := fun w' => Kept (fun _ => False) wc w') (by kernel_rfl) ((Kept.refl _ _).drew) (fun hHeld => ?_)
          refine tkp (v := ?_) 0 rfl ?_ ?_; rotate_left 1
          · intro w hSw; obtain ⟨s1, s2⟩ := HGA.out w hSw; obtain ⟨s3, s4⟩ := HGB.out w hSw; go_simp; try with_reducible rfl
          try simp only [Act.put, tdy]
          refine tkp (v := ?_) 1 rfl ?_ ?_; rotate_left 1
          · intro w hSw; obtain ⟨s1, s2⟩ := HGA.out w hSw; obtain ⟨s3, s4⟩ := HGB.out w hSw; go_simp; try with_reducible rfl
          try simp only [Act.put, tdy]
          refine tkp (v := ?_) 2 rfl ?_ ?_; rotate_left 1
          · intro w hSw; obtain ⟨s1, s2⟩ := HGA.out w hSw; obtain ⟨s3, s4⟩ := HGB.out w hSw; go_simp; try with_reducible rfl
          try simp only [Act.put, tdy]
          refine tkp (v := ?_) 3 rfl ?_ ?_; rotate_left 1
          · intro w hSw; obtain ⟨s1, s2⟩ := HGA.out w hSw; obtain ⟨s3, s4⟩ := HGB.out w hSw; go_simp; try with_reducible rfl
          try simp only [Act.put, tdy]
          refine tkp (v := ?_) 4 rfl ?_ ?_; rotate_left 1
          · intro w hSw; obtain ⟨s1, s2⟩ := HGA.out w hSw; obtain ⟨s3, s4⟩ := HGB.out w hSw; go_simp; try with_reducible rfl
          try simp only [Act.put, tdy]
          refine tkp (v := ?_) 5 rfl ?_ ?_; rotate_left 1
          · intro w hSw; obtain ⟨s1, s2⟩ := HGA.out w hSw; obtain ⟨s3, s4⟩ := HGB.out w hSw; go_simp; try with_reducible rfl
          try simp only [Act.put, tdy]
          refine tkp (v := ?_) 6 rfl ?_ ?_; rotate_left 1
          · intro w hSw; obtain ⟨s1, s2⟩ := HGA.out w hSw; obtain ⟨s3, s4⟩ := HGB.out w hSw; go_simp; try with_reducible rfl
          try simp only [Act.put, tdy]
          refine tkp (v := ?_) 7 rfl ?_ ?_; rotate_left 1
          · intro w hSw; obtain ⟨s1, s2⟩ := HGA.out w hSw; obtain ⟨s3, s4⟩ := HGB.out w hSw; go_simp; try with_reducible rfl
          try simp only [Act.put, tdy]
          refine wpAnyH_ready (rs := [8]) (by kernel_rfl) (by simp) ?_
          refine AllReadyH.cons rfl (fun K hK => ?_) AllReadyH.nil
          go_simp
          refine (HALa.out _ hHeld).mono ?_
          rintro e w3 ⟨rfl, hk3⟩
          have HK3 : Hid (Kept (fun _ => False) wc w3) := hHeld.trans hk3
          clear hk3 HALa
          refine hK.out _ _ HK3.out (fun hHeld => ?_)
          clear hK K
          try simp only [Act.put, tdy]
          refine tkp (v := ?_) 9 rfl ?_ ?_; rotate_left 1
          · intro w hSw; obtain ⟨s1, s2⟩ := HGA.out w hSw; obtain ⟨s3, s4⟩ := HGB.out w hSw; go_simp; try with_reducible rfl
          try simp only [Act.put, tdy]
          refine tkp (v := ?_) 10 rfl ?_ ?_; rotate_left 1
          · intro w hSw; obtain ⟨s1, s2⟩ := HGA.out w hSw; obtain ⟨s3, s4⟩ := HGB.out w hSw; go_simp; try with_reducible rfl
          try simp only [Act.put, tdy]
          refine tkp (v := ?_) 11 rfl ?_ ?_; rotate_left 1
          · intro w hSw; obtain ⟨s1, s2⟩ := HGA.out w hSw; obtain ⟨s3, s4⟩ := HGB.out w hSw; go_simp; try with_reducible rfl
          try simp only [Act.put, tdy]
          refine tkp (v := ?_) 12 rfl ?_ ?_; rotate_left 1
          · intro w hSw; obtain ⟨s1, s2⟩ := HGA.out w hSw; obtain ⟨s3, s4⟩ := HGB.out w hSw; go_simp; try with_reducible rfl
          try simp only [Act.put, tdy]
          refine tkp (v := ?_) 13 rfl ?_ ?_; rotate_left 1
          · intro w hSw; obtain ⟨s1, s2⟩ := HGA.out w hSw; obtain ⟨s3, s4⟩ := HGB.out w hSw; go_simp; try with_reducible rfl
          try simp only [Act.put, tdy]
          refine tkp (v := ?_) 14 rfl ?_ ?_; rotate_left 1
          · intro w hSw; obtain ⟨s1, s2⟩ := HGA.out w hSw; obtain ⟨s3, s4⟩ := HGB.out w hSw; go_simp; try with_reducible rfl
          try simp only [Act.put, tdy]
          refine tkp (v := ?_) 15 rfl ?_ ?_; rotate_left 1
          · intro w hSw; obtain ⟨s1, s2⟩ := HGA.out w hSw; obtain ⟨s3, s4⟩ := HGB.out w hSw; go_simp; try with_reducible rfl
          try simp only [Act.put, tdy]
          refine tkp (v := ?_) 16 rfl ?_ ?_; rotate_left 1
          · intro w hSw; obtain ⟨s1, s2⟩ := HGA.out w hSw; obtain ⟨s3, s4⟩ := HGB.out w hSw; go_simp; try with_reducible rfl
          try simp only [Act.put, tdy]
          refine tkp (v := ?_) 17 rfl ?_ ?_; rotate_left 1
          · intro w hSw; obtain ⟨s1, s2⟩ := HGA.out w hSw; obtain ⟨s3, s4⟩ := HGB.out w hSw; go_simp; try with_reducible rfl
          try simp only [Act.put, tdy]
          refine wpAnyH_ready (rs := [18]) (by kernel_rfl) (by simp) ?_
          refine AllReadyH.cons rfl (fun K hK => ?_) AllReadyH.nil
          go_simp
          refine (HALb.out _ HK3.out).mono ?_
          rintro e w4 ⟨rfl, hk4⟩
          have HK4 : Hid (Kept (fun _ => False) wc w4) := HK3.out.trans hk4
          clear hk4 HALb
          refine hK.out _ _ HK4.out (fun hHeld => ?_)
          clear hK K
          try simp only [Act.put, tdy]
          refine tkp (v := ?_) 19 rfl ?_ ?_; rotate_left 1
          · intro w hSw; obtain ⟨s1, s2⟩ := HGA.out w hSw; obtain ⟨s3, s4⟩ := HGB.out w hSw; go_simp; try with_reducible rfl
          try simp only [Act.put, tdy]
          refine tkp (v := ?_) 20 rfl ?_ ?_; rotate_left 1
          · intro w hSw; obtain ⟨s1, s2⟩ := HGA.out w hSw; obtain ⟨s3, s4⟩ := HGB.out w hSw; go_simp; try with_reducible rfl
          try simp only [Act.put, tdy]
          refine tkp (v := ?_) 21 rfl ?_ ?_; rotate_left 1
          · intro w hSw; obtain ⟨s1, s2⟩ := HGA.out w hSw; obtain ⟨s3, s4⟩ := HGB.out w hSw; go_simp; try with_reducible rfl
          try simp only [Act.put, tdy]
          refine tkp (v := ?_) 22 rfl ?_ ?_; rotate_left 1
          · intro w hSw; obtain ⟨s1, s2⟩ := HGA.out w hSw; obtain ⟨s3, s4⟩ := HGB.out w hSw; go_simp; try with_reducible rfl
          try simp only [Act.put, tdy]
          refine tkp (v := ?_) 23 rfl ?_ ?_; rotate_left 1
          · intro w hSw; obtain ⟨s1, s2⟩ := HGA.out w hSw; obtain ⟨s3, s4⟩ := HGB.out w hSw; go_simp; try with_reducible rfl
          try simp only [Act.put, tdy]
          refine tkp (v := ?_) 24 rfl ?_ ?_; rotate_left 1
          · intro w hSw; obtain ⟨s1, s2⟩ := HGA.out w hSw; obtain ⟨s3, s4⟩ := HGB.out w hSw; go_simp; try with_reducible rfl
          try simp only [Act.put, tdy]
          refine tkp (v := ?_) 26 rfl ?_ ?_; rotate_left 1
          · intro w hSw; obtain ⟨s1, s2⟩ := HGA.out w hSw; obtain ⟨s3, s4⟩ := HGB.out w hSw; go_simp; try with_reducible rfl
          try simp only [Act.put, tdy]
          refine tkp (v := ?_) 27 rfl ?_ ?_; rotate_left 1
          · intro w hSw; obtain ⟨s1, s2⟩ := HGA.out w hSw; obtain ⟨s3, s4⟩ := HGB.out w hSw; go_simp; try with_reducible rfl
          try simp only [Act.put, tdy]
          refine tkp (v := ?_) 28 rfl ?_ ?_; rotate_left 1
          · intro w hSw; obtain ⟨s1, s2⟩ := HGA.out w hSw; obtain ⟨s3, s4⟩ := HGB.out w hSw; go_simp; try with_reducible rfl
          try simp only [Act.put, tdy]
          refine tkp (v := ?_) 29 rfl ?_ ?_; rotate_left 1
          · intro w hSw; obtain ⟨s1, s2⟩ := HGA.out w hSw; obtain ⟨s3, s4⟩ := HGB.out w hSw; go_simp; try with_reducible rfl
          try simp only [Act.put, tdy]
          refine tkp (v := ?_) 30 rfl ?_ ?_; rotate_left 1
          · intro w hSw; obtain ⟨s1, s2⟩ := HGA.out w hSw; obtain ⟨s3, s4⟩ := HGB.out w hSw; go_simp; try with_reducible rfl
          try simp only [Act.put, tdy]
          refine tkp (v := ?_) 31 rfl ?_ ?_; rotate_left 1
          · intro w hSw; obtain ⟨s1, s2⟩ := HGA.out w hSw; obtain ⟨s3, s4⟩ := HGB.out w hSw; go_simp; try with_reducible rfl
          try simp only [Act.put, tdy]
          refine tkg 32 (.agg laa) rfl (by rw [← HLAa.out]; exact yieldsIf_load_mid (by rfl) 41 _ rfl ra 4 rfl lsa _ (fun w hSw => HMIa.out w hSw) Tryz.underlying41 rfl hsla) ?_
          try simp only [Act.put, tdy]
          refine wpAnyH_ready (rs := [25]) (by kernel_rfl) (by simp) ?_
          refine AllReadyH.cons rfl (fun K hK => ?_) AllReadyH.nil
          go_simp
          refine (HCOa.out _ HK4.out).mono ?_
          rintro e w5 ⟨rfl, hk5⟩
          have HK5 : Hid (Kept (fun _ => False) wc w5) := HK4.out.trans hk5
          clear hk5 HCOa
          refine hK.out _ _ HK5.out (fun hHeld => ?_)
          clear hK K
          try simp only [Act.put, tdy]
          refine tkp (v := ?_) 33 rfl ?_ ?_; rotate_left 1
          · intro w hSw; have hq := HEQa w; go_simp; try with_reducible rfl
          try simp only [Act.put, tdy]
          refine tkp (v := ?_) 34 rfl ?_ ?_; rotate_left 1
          · intro w hSw; obtain ⟨s1, s2⟩ := HGA.out w hSw; obtain ⟨s3, s4⟩ := HGB.out w hSw; go_simp; try with_reducible rfl
          try simp only [Act.put, tdy]
          refine tkp (v := ?_) 35 rfl ?_ ?_; rotate_left 1
          · intro w hSw; obtain ⟨s1, s2⟩ := HGA.out w hSw; obtain ⟨s3, s4⟩ := HGB.out w hSw; go_simp; try with_reducible rfl
          try simp only [Act.put, tdy]
          refine tkp (v := ?_) 36 rfl ?_ ?_; rotate_left 1
          · intro w hSw; obtain ⟨s1, s2⟩ := HGA.out w hSw; obtain ⟨s3, s4⟩ := HGB.out w hSw; go_simp; try with_reducible rfl
          try simp only [Act.put, tdy]
          refine tkp (v := ?_) 37 rfl ?_ ?_; rotate_left 1
          · intro w hSw; obtain ⟨s1, s2⟩ := HGA.out w hSw; obtain ⟨s3, s4⟩ := HGB.out w hSw; go_simp; try with_reducible rfl
          try simp only [Act.put, tdy]
          refine tkp (v := ?_) 38 rfl ?_ ?_; rotate_left 1
          · intro w hSw; obtain ⟨s1, s2⟩ := HGA.out w hSw; obtain ⟨s3, s4⟩ := HGB.out w hSw; go_simp; try with_reducible rfl
          try simp only [Act.put, tdy]
          refine tkp (v := ?_) 39 rfl ?_ ?_; rotate_left 1
          · intro w hSw; obtain ⟨s1, s2⟩ := HGA.out w hSw; obtain ⟨s3, s4⟩ := HGB.out w hSw; go_simp; try with_reducible rfl
          try simp only [Act.put, tdy]
          refine tkp (v := ?_) 41 rfl ?_ ?_; rotate_left 1
          · intro w hSw; obtain ⟨s1, s2⟩ := HGA.out w hSw; obtain ⟨s3, s4⟩ := HGB.out w hSw; go_simp; try with_reducible rfl
          try simp only [Act.put, tdy]
          refine tkp (v := ?_) 42 rfl ?_ ?_; rotate_left 1
          · intro w hSw; obtain ⟨s1, s2⟩ := HGA.out w hSw; obtain ⟨s3, s4⟩ := HGB.out w hSw; go_simp; try with_reducible rfl
          try simp only [Act.put, tdy]
          refine tkp (v := ?_) 43 rfl ?_ ?_; rotate_left 1
          · intro w hSw; obtain ⟨s1, s2⟩ := HGA.out w hSw; obtain ⟨s3, s4⟩ := HGB.out w hSw; go_simp; try with_reducible rfl
          try simp only [Act.put, tdy]
          refine tkp (v := ?_) 44 rfl ?_ ?_; rotate_left 1
          · intro w hSw; obtain ⟨s1, s2⟩ := HGA.out w hSw; obtain ⟨s3, s4⟩ := HGB.out w hSw; go_simp; try with_reducible rfl
          try simp only [Act.put, tdy]
          refine tkp (v := ?_) 45 rfl ?_ ?_; rotate_left 1
          · intro w hSw; obtain ⟨s1, s2⟩ := HGA.out w hSw; obtain ⟨s3, s4⟩ := HGB.out w hSw; go_simp; try with_reducible rfl
          try simp only [Act.put, tdy]
          refine tkp (v := ?_) 46 rfl ?_ ?_; rotate_left 1
          · intro w hSw; obtain ⟨s1, s2⟩ := HGA.out w hSw; obtain ⟨s3, s4⟩ := HGB.out w hSw; go_simp; try with_reducible rfl
          try simp only [Act.put, tdy]
          refine tkg 47 (.agg lab) rfl (by rw [← HLAb.out]; exact yieldsIf_load_mid (by rfl) 41 _ rfl rb' 4 rfl lsb _ (fun w hSw => HMIb.out w hSw) Tryz.underlying41 rfl hslb) ?_
          try simp only [Act.put, tdy]
          refine wpAnyH_ready (rs := [40]) (by kernel_rfl) (by simp) ?_
          refine AllReadyH.cons rfl (fun K hK => ?_) AllReadyH.nil
          go_simp
          refine (HCOb.out _ HK5.out).mono ?_
          rintro e w6 ⟨rfl, hk6⟩
          have HK6 : Hid (Kept (fun _ => False) wc w6) := HK5.out.trans hk6
          clear hk6 HCOb
          refine hK.out _ _ HK6.out (fun hHeld => ?_)
          clear hK K
          try simp only [Act.put, tdy]
          refine tkp (v := ?_) 48 rfl ?_ ?_; rotate_left 1
          · intro w hSw; have hq := HEQb w; go_simp; try with_reducible rfl
          try simp only [Act.put, tdy]
          refine tkp (v := ?_) 49 rfl ?_ ?_; rotate_left 1
          · intro w hSw; obtain ⟨s1, s2⟩ := HGA.out w hSw; obtain ⟨s3, s4⟩ := HGB.out w hSw; go_simp; try with_reducible rfl
          try simp only [Act.put, tdy]
          refine tkp (v := ?_) 50 rfl ?_ ?_; rotate_left 1
          · intro w hSw; obtain ⟨s1, s2⟩ := HGA.out w hSw; obtain ⟨s3, s4⟩ := HGB.out w hSw; go_simp; try with_reducible rfl
          try simp only [Act.put, tdy]
          refine wpAnyH_ready (rs := [51]) (by kernel_rfl) (by simp) ?_
          refine AllReadyH.cons rfl (fun K hK => ?_) AllReadyH.nil
          go_simp
          refine (HHD.out _ HK6.out).mono ?_
          rintro e w7 ⟨rfl, hk7⟩
          have HK7 : Hid (Kept (fun _ => False) wc w7) := HK6.out.trans hk7
          clear hk7 HHD
          refine hK.out _ _ HK7.out (fun hHeld => ?_)
          clear hK K
          try simp only [Act.put, tdy]
          refine tkp (v := ?_) 52 rfl ?_ ?_; rotate_left 1
          · intro w hSw; obtain ⟨s1, s2⟩ := HGA.out w hSw; obtain ⟨s3, s4⟩ := HGB.out w hSw; go_simp; try with_reducible rfl
          try simp only [Act.put, tdy]
          refine tkp (v := ?_) 53 rfl ?_ ?_; rotate_left 1
          · intro w hSw; obtain ⟨s1, s2⟩ := HGA.out w hSw; obtain ⟨s3, s4⟩ := HGB.out w hSw; go_simp; try with_reducible rfl
          try simp only [Act.put, tdy]
          refine wpAnyH_done (by kernel_rfl) ?_ _
          clear hHeld
          have HFI := hid_of (HKP.out.trans HK7.out)
          go_wp2
          go_ret
          exact ⟨rfl, HFI.out⟩
theorem apart_any (wd wd2 cp : Int) (vf vl vr vt : Value) (tw : Bool) (tf tl tr : List Stp) (ns : List Int) (W : World) (hL : Laid W) (hf : TIs W vf tf) (hl : TIs W vl tl) (hr : TIs W vr tr) (ht : NIs W vt ns) :
    Calls Tryz.prog 3 #[.int .i64 wd, .int .i64 wd2, .int .i64 cp, vf, vl, vr, vt, .bool tw] W fun e w' => e = .returned (.bool true) ∧ Kept (fun _ => False) W w' := by
  by_cases h1 : ((1 ≤ wd ∧ wd ≤ 32) ∧ 0 ≤ cp ∧ cp ≤ 67108864)
  · by_cases h2 : ((1 ≤ wd2 ∧ wd2 ≤ 32) ∧ 0 ≤ cp ∧ cp ≤ 67108864)
    · exact apart_ok wd wd2 cp vf vl vr vt tw tf tl tr ns W ⟨h1, h2⟩ hL hf hl hr ht
    · exact apart_ob wd wd2 cp vf vl vr vt tw tf tl tr ns W ⟨h1, h2⟩ hL hf hl hr ht
  · by_cases h2 : ((1 ≤ wd2 ∧ wd2 ≤ 32) ∧ 0 ≤ cp ∧ cp ≤ 67108864)
    · exact apart_bo wd wd2 cp vf vl vr vt tw tf tl tr ns W ⟨h1, h2⟩ hL hf hl hr ht
    · exact apart_bb wd wd2 cp vf vl vr vt tw tf tl tr ns W ⟨h1, h2⟩ hL hf hl hr ht
end Go.Proofs.YtjdbmjkidljhpabGreatDoor

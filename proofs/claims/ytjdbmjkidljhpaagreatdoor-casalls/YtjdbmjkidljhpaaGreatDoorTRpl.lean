/-
 The document's place, by contract.
-/
import Derived.Test.YtjdbmjkidljhpaaGreatDoorTMf
import Derived.Test.YtjdbmjkidljhpaaGreatDoorTMd
import Derived.Great.Ranges
import Derived.Deep.DeepCutAuto
import Derived.Deep.RegionHeld3
namespace Go.Proofs.YtjdbmjkidljhpaaGreatDoor
open Go.RowKit
set_option linter.unusedVariables false
set_option linter.unusedSimpArgs false
set_option maxRecDepth 100000
set_option maxHeartbeats 8000000 in
theorem place_any {w : World} {r : Nat} {lv : Value} {ρ : Rg} (h : Rst w r lv ρ) (d : List Int) (hd : d.length = 32) :
  Calls Tryz.prog 56 #[.pointer (some ⟨r, 0, none⟩), dv d] w fun e w' => e = .returned (.tuple #[.int .i64 (atB ρ.l d : Int), .bool (findB ρ.l d).isSome]) ∧ Kept (fun _ => False) w w' := by
 obtain ⟨ao, c, rfl⟩ := row_form h.row
 have HRS := hid_of h
 have hfew := h.few
 obtain ⟨n, hn⟩ : ∃ n, n = ρ.l.length := ⟨_, rfl⟩
 have hnI : (n : Int) ≤ 1000000 := by omega
 have HN := hid_of hn
 have HDS := hid_of (size29_arr d hd)
 have HD := hid_of hd
 have HAT : Hid (atB ρ.l d ≤ n) := by unfold Hid; rw [hn]; exact atB_le _ _
 rw [← hn] at HRS
 have HLS0 : Hid (∀ (b : Bl) (W : World), b ∈ ρ.l → Calls Tryz.prog 71 #[.agg (b.d.map (Value.int .u8)).toArray, .agg (d.map (Value.int .u8)).toArray] W fun e w' => e = .returned (.bool (ltB b.d d)) ∧ Kept (fun _ => False) W w') := fun b W hb => rless_any b.d d (h.k32 b hb) hd W
 have HEQ0 : Hid (∀ (b : Bl) (W : World), b ∈ ρ.l → (Op.equalIn 10000 29 (.agg (b.d.map (Value.int .u8)).toArray) (.agg (d.map (Value.int .u8)).toArray)).run Tryz.prog W = .ok (decide (b.d = d)) W) := fun b W hb => run_eq_arr W 9998 29 32 b.d d Tryz.underlying29 (h.k32 b hb) hd
 have HKA : Hid (Kept (fun _ => False) w (w.alloc (.cells (d.map (Value.int .u8)).toArray 29))) := (Kept.refl _ w).alloc _
 have HBA : Hid ((w.alloc (.cells (d.map (Value.int .u8)).toArray 29)).heap[w.heap.size]? = some (.cells (d.map (Value.int .u8)).toArray 29 (0, 0))) := alloc_new _ _ rfl
 have HC30 : Hid (∀ W, Kept (fun _ => False) w W → W.cell? ⟨r, 3, none⟩ = some (.slice ao n c)) := fun W hW => (HRS.out.same hW).cell 3
 have HGET : Hid (∀ (k : Nat) (b : Bl), ρ.l[k]? = some b → ∃ g, ao = some ⟨g, 0, none⟩ ∧ ∀ W, Kept (fun _ => False) w W → W.rangeAt g (k * 34) (b.d.map (Value.int .u8))) := fun k b hb => by
  have hlt := (List.getElem?_eq_some_iff.1 hb).1
  have hrow := HRS.out.row
  rw [← HN.out] at hrow
  obtain ⟨g, c', e⟩ := row_some hrow (by rw [HN.out]; omega)
  cases e
  exact ⟨g, rfl, fun W hW => (Bl.range (h.k32 b (List.mem_of_getElem? hb)) (row_get (hW.ownsRow hrow (fun _ _ f => f)) h.k32 hb)).1⟩
 unfold dv
 clear h hn hfew hd
 generalize (d.map (Value.int .u8)).toArray = ds at *
 go_enter Tryz.func56, Tryz.ntmps56
 go_wp2
 generalize w.alloc (.cells ds 29) = wA at *
 go_loopw [6] (fun v wr => ∃ k : Nat, k ≤ atB ρ.l d ∧ v = .int .i64 (k : Int) ∧ Hid (Kept (fun _ => False) w wr) ∧ Hid (wr.heap[w.heap.size]? = some (.cells ds 29 (0, 0)))) (fun v _ => n + 1 - (intOf v).toNat)
 case atStart => exact ⟨0, Nat.zero_le _, rfl, HKA, HBA⟩
 case round =>
  obtain ⟨k, hk, rfl, HKR, HBR⟩ := hrel
  have hkn : k ≤ n := Nat.le_trans hk HAT.out
  have HC3 : Hid (∀ W, Kept (fun _ => False) wr W → W.cell? ⟨r, 3, none⟩ = some (.slice ao n c)) := fun W hW => HC30.out W (HKR.out.trans hW)
  have HBX : Hid (∀ W, Kept (fun _ => False) wr W → W.heap[w.heap.size]? = some (.cells ds 29 (0, 0))) := fun W hW => (hW.block _ (heap_lt HBR.out) (fun f => f)).trans HBR.out
  by_cases hlt : k < atB ρ.l d
  ·have hkl : k < n := Nat.lt_of_lt_of_le hlt HAT.out
   have hkI : (k : Int) < (n : Int) := by omega
   obtain ⟨b, hb⟩ : ∃ b, ρ.l[k]? = some b := ⟨_, List.getElem?_eq_getElem (by rw [← HN.out]; exact hkl)⟩
   have hmem := List.mem_of_getElem? hb
   obtain ⟨g, rfl, hg⟩ := HGET.out k b hb
   have HMID : Hid (∀ W, Kept (fun _ => False) wr W → W.rangeAt g (k * 34) (b.d.map (Value.int .u8))) := fun W hW => hg W (HKR.out.trans hW)
   have HS29 := hid_of (size29_lst b.d (HRS.out.k32 b hmem))
   have HLS : Hid (∀ W : World, Calls Tryz.prog 71 #[.agg (b.d.map (Value.int .u8)).toArray, .agg ds] W fun e w' => e = .returned (.bool true) ∧ Kept (fun _ => False) W w') := fun W => by
    have := HLS0.out b W hmem
    rw [atB_low ρ.l d k b hlt hb] at this
    exact this
   clear hmem hg hb
   go_upto_region 2 with fail
   refine wp_region_held_drew (S := fun w' => Kept (fun _ => False) wr w') (by kernel_rfl) ((Kept.refl _ _).drew) (fun hHeld => ?_)
   iterate 15
    refine tkn (v := ?_) 0 rfl ?_ ?_; rotate_left 1
    ·intro w hSw; have q3 := HC3.out w hSw; go_simp; try with_reducible rfl
    try simp only [Act.put, tdy]
   refine tkg 15 (.agg (b.d.map (Value.int .u8)).toArray) rfl (yieldsIf_load_mid (by rfl) 29 _ rfl g (k * 34) rfl (b.d.map (Value.int .u8)) _ (fun w hSw => HMID.out w hSw) Tryz.underlying29 rfl HS29.out) ?_
   try simp only [Act.put, tdy]
   refine tkg 16 (.agg ds) rfl (yields_row (by rfl) 29 _ rfl w.heap.size rfl _ _ _ _ (fun w hSw => HBX.out w hSw) Tryz.underlying29 rfl HDS.out) ?_
   try simp only [Act.put, tdy]
   refine wpAnyH_ready (rs := [17]) (by kernel_rfl) (by simp) ?_
   refine AllReadyH.cons rfl (fun K hK => ?_) .nil
   go_simp
   refine (HLS.out _).mono ?_
   rintro e w5 ⟨rfl, hk5⟩
   have HK5 := hid_of (((Kept.refl (fun _ => False) wr).drew).trans hk5)
   refine hK.out _ _ HK5.out (fun hHeld => ?_)
   clear hK K hk5
   try simp only [Act.put, tdy]
   refine tkp (v := ?_) 18 rfl ?_ ?_; rotate_left 1
   ·intro w hSw; go_simp; try with_reducible rfl
   try simp only [Act.put, tdy]
   refine wpAnyH_done (by kernel_rfl) ?_ _
   have HKN := hid_of (HKR.out.trans HK5.out)
   have HBN := hid_of (HBX.out w5 HK5.out)
   clear hHeld HK5 HC3 HBX HMID HLS HS29 HKR HBR
   go_wp2
   go_roundw
   case rel => exact ⟨k + 1, by omega, by go_num, HKN, HBN⟩
   case measure => simp [intOf]; omega
  ·have hke : k = atB ρ.l d := by omega
   by_cases hkl : k < n
   ·have hkI : (k : Int) < (n : Int) := by omega
    obtain ⟨b, hb⟩ : ∃ b, ρ.l[k]? = some b := ⟨_, List.getElem?_eq_getElem (by rw [← HN.out]; exact hkl)⟩
    have hmem := List.mem_of_getElem? hb
    obtain ⟨g, rfl, hg⟩ := HGET.out k b hb
    have HMID : Hid (∀ W, Kept (fun _ => False) wr W → W.rangeAt g (k * 34) (b.d.map (Value.int .u8))) := fun W hW => hg W (HKR.out.trans hW)
    have HS29 := hid_of (size29_lst b.d (HRS.out.k32 b hmem))
    have HLS : Hid (∀ W : World, Calls Tryz.prog 71 #[.agg (b.d.map (Value.int .u8)).toArray, .agg ds] W fun e w' => e = .returned (.bool false) ∧ Kept (fun _ => False) W w') := fun W => by
     have := HLS0.out b W hmem
     rw [atB_stop ρ.l d b (by rw [← hke]; exact hb)] at this
     exact this
    have HEQ : Hid (∀ W : World, (Op.equalIn 10000 29 (.agg (b.d.map (Value.int .u8)).toArray) (.agg ds)).run Tryz.prog W = .ok (decide (b.d = d)) W) := fun W => HEQ0.out b W hmem
    have HFB : Hid ((findB ρ.l d).isSome = decide (b.d = d)) := by
     unfold Hid
     rw [findB_at, ← hke, hb]
     by_cases e : b.d = d <;> simp [e]
    have HKE := hid_of hke
    clear hmem hg hb hke hlt hk
    go_upto_region 2 with fail
    refine wp_region_held_drew (S := fun w' => Kept (fun _ => False) wr w') (by kernel_rfl) ((Kept.refl _ _).drew) (fun hHeld => ?_)
    iterate 15
     refine tkn (v := ?_) 0 rfl ?_ ?_; rotate_left 1
     ·intro w hSw; have q3 := HC3.out w hSw; go_simp; try with_reducible rfl
     try simp only [Act.put, tdy]
    refine tkg 15 (.agg (b.d.map (Value.int .u8)).toArray) rfl (yieldsIf_load_mid (by rfl) 29 _ rfl g (k * 34) rfl (b.d.map (Value.int .u8)) _ (fun w hSw => HMID.out w hSw) Tryz.underlying29 rfl HS29.out) ?_
    try simp only [Act.put, tdy]
    refine tkg 16 (.agg ds) rfl (yields_row (by rfl) 29 _ rfl w.heap.size rfl _ _ _ _ (fun w hSw => HBX.out w hSw) Tryz.underlying29 rfl HDS.out) ?_
    try simp only [Act.put, tdy]
    refine wpAnyH_ready (rs := [17]) (by kernel_rfl) (by simp) ?_
    refine AllReadyH.cons rfl (fun K hK => ?_) .nil
    go_simp
    refine (HLS.out _).mono ?_
    rintro e w5 ⟨rfl, hk5⟩
    have HK5 := hid_of (((Kept.refl (fun _ => False) wr).drew).trans hk5)
    refine hK.out _ _ HK5.out (fun hHeld => ?_)
    clear hK K hk5
    try simp only [Act.put, tdy]
    refine tkp (v := ?_) 18 rfl ?_ ?_; rotate_left 1
    ·intro w hSw; go_simp; try with_reducible rfl
    try simp only [Act.put, tdy]
    refine wpAnyH_done (by kernel_rfl) ?_ _
    have HKW := hid_of (HKR.out.trans HK5.out)
    have HC3' : Hid (∀ W, Kept (fun _ => False) w5 W → W.cell? ⟨r, 3, none⟩ = some (.slice (some ⟨g, 0, none⟩) n c)) := fun W hW => HC3.out W (HK5.out.trans hW)
    have HBX' : Hid (∀ W, Kept (fun _ => False) w5 W → W.heap[w.heap.size]? = some (.cells ds 29 (0, 0))) := fun W hW => HBX.out W (HK5.out.trans hW)
    have HMID' : Hid (∀ W, Kept (fun _ => False) w5 W → W.rangeAt g (k * 34) (b.d.map (Value.int .u8))) := fun W hW => HMID.out W (HK5.out.trans hW)
    clear hHeld HK5 HC3 HBX HMID HLS
    have HC3 := HC3'
    have HBX := HBX'
    have HMID := HMID'
    clear HC3' HBX' HMID'
    generalize decide (b.d = d) = tb at *
    go_upto_region 4 with fail
    refine wp_region_held_drew (S := fun w' => Kept (fun _ => False) w5 w') (by kernel_rfl) ((Kept.refl _ _).drew) (fun hHeld => ?_)
    iterate 16
     refine tkn (v := ?_) 0 rfl ?_ ?_; rotate_left 1
     ·intro w hSw; have q3 := HC3.out w hSw; go_simp; try with_reducible rfl
     try simp only [Act.put, tdy]
    refine tkg 16 (.agg (b.d.map (Value.int .u8)).toArray) rfl (yieldsIf_load_mid (by rfl) 29 _ rfl g (k * 34) rfl (b.d.map (Value.int .u8)) _ (fun w hSw => HMID.out w hSw) Tryz.underlying29 rfl HS29.out) ?_
    try simp only [Act.put, tdy]
    refine tkg 17 (.agg ds) rfl (yields_row (by rfl) 29 _ rfl w.heap.size rfl _ _ _ _ (fun w hSw => HBX.out w hSw) Tryz.underlying29 rfl HDS.out) ?_
    try simp only [Act.put, tdy]
    refine tkp (v := ?_) 18 rfl ?_ ?_; rotate_left 1
    ·intro w hSw; have hq := HEQ.out w; go_simp; try with_reducible rfl
    try simp only [Act.put, tdy]
    iterate 3
     refine tkn (v := ?_) 19 rfl ?_ ?_; rotate_left 1
     ·intro w hSw; go_simp; try with_reducible rfl
     try simp only [Act.put, tdy]
    refine wpAnyH_done (by kernel_rfl) ?_ _
    have HKZ := hid_of (HKW.out.drew)
    clear hHeld
    go_wp2
    go_ret2
    exact ⟨by rw [HFB.out, ← HKE.out]; rfl, HKZ.out⟩
   ·have hkI : ¬ ((k : Int) < (n : Int)) := by omega
    have HFB : Hid ((findB ρ.l d).isSome = false) := by
     unfold Hid
     rw [findB_at, ← hke, List.getElem?_eq_none (by rw [← HN.out]; omega)]
     rfl
    have HKE := hid_of hke
    clear hke hlt hk
    go_upto_region 2 with fail
    refine wp_region_held_drew (S := fun w' => Kept (fun _ => False) wr w') (by kernel_rfl) ((Kept.refl _ _).drew) (fun hHeld => ?_)
    iterate 8
     refine tkn (v := ?_) 0 rfl ?_ ?_; rotate_left 1
     ·intro w hSw; have q3 := HC3.out w hSw; go_simp; try with_reducible rfl
     try simp only [Act.put, tdy]
    iterate 9
     refine tkm 8 rfl ?_
     try simp only [Act.put, tdy]
    refine wpAnyH_ready (rs := [17]) (by kernel_rfl) (by simp) ?_
    refine AllReadyH.cons rfl (fun K hK => ?_) .nil
    go_simp
    refine hK.out _ _ (by assumption) (fun hHeld => ?_)
    clear hK K
    try simp only [Act.put, tdy]
    refine tkp (v := ?_) 18 rfl ?_ ?_; rotate_left 1
    ·intro w hSw; go_simp; try with_reducible rfl
    try simp only [Act.put, tdy]
    refine wpAnyH_done (by kernel_rfl) ?_ _
    have HD1 : Hid (Kept (fun _ => False) wr wr.drew) := (Kept.refl _ _).drew
    have HKW := hid_of (HKR.out.trans HD1.out)
    have HC3' : Hid (∀ W, Kept (fun _ => False) wr.drew W → W.cell? ⟨r, 3, none⟩ = some (.slice ao n c)) := fun W hW => HC3.out W (HD1.out.trans hW)
    clear hHeld HC3 HBX HD1
    have HC3 := HC3'
    clear HC3'
    generalize wr.drew = w5 at *
    go_upto_region 4 with fail
    refine wp_region_held_drew (S := fun w' => Kept (fun _ => False) w5 w') (by kernel_rfl) ((Kept.refl _ _).drew) (fun hHeld => ?_)
    iterate 9
     refine tkn (v := ?_) 0 rfl ?_ ?_; rotate_left 1
     ·intro w hSw; have q3 := HC3.out w hSw; go_simp; try with_reducible rfl
     try simp only [Act.put, tdy]
    iterate 10
     refine tkm 9 rfl ?_
     try simp only [Act.put, tdy]
    iterate 3
     refine tkn (v := ?_) 19 rfl ?_ ?_; rotate_left 1
     ·intro w hSw; go_simp; try with_reducible rfl
     try simp only [Act.put, tdy]
    refine wpAnyH_done (by kernel_rfl) ?_ _
    have HKZ := hid_of (HKW.out.drew)
    clear hHeld
    go_wp2
    go_ret2
    exact ⟨by rw [HFB.out, ← HKE.out]; rfl, HKZ.out⟩
end Go.Proofs.YtjdbmjkidljhpaaGreatDoor

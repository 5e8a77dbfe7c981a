/-
 Mg: Cdig, Rround.
-/
import Derived.Test.YtjdbmjkidljhpaaGreatDoorTMf
import Derived.Deep.DeepCutAuto
import Derived.Test.YtjdbmjkidljhpaaGreatDoorTMc
import Derived.Laws.BitsAllLaws
namespace Go.Proofs.YtjdbmjkidljhpaaGreatDoor
open Go.RowKit
set_option linter.unusedVariables false
set_option linter.unusedSimpArgs false
set_option maxRecDepth 100000
/-- A digest's front of so many bytes. -/
def frontOf (k : Nat) (xs : List Int) : List Int := cutL (sha xs) k
theorem frontOf_len (k : Nat) (xs : List Int) (h : k ≤ 32) : (frontOf k xs).length = 32 := cutL_len _ k (sha_len xs) h
set_option maxHeartbeats 4000000 in
theorem digest_cells (s k : Nat) (h1 : 1 ≤ k) (h2 : k ≤ 32) (bv : Value) (xs : List Int) (w : World) (hc : w.cell? ⟨s, 0, none⟩ = some (.int .i64 (k : Int))) (hL : Laid w) (hx : BIn w bv xs) (hr : ∀ x ∈ xs, 0 ≤ x ∧ x < 256) (hn : xs.length ≤ 4294967296) :
  Calls Tryz.prog 37 #[.pointer (some ⟨s, 0, none⟩), bv] w fun e w' => e = .returned (dv (frontOf k xs)) ∧ Kept (fun _ => False) w w' := by
 obtain ⟨ao, cc, hbv, _, _⟩ := id hx
 subst hbv
 have HO : Hid (∀ W b, Kept (fun _ => False) w W → W.heap[b]? = some (.cells #[.slice ao xs.length cc] 27 (0, 0)) → Calls Tryz.prog 63 #[.slice (some ⟨b, 0, none⟩) 1 1] W fun e w' => e = .returned (.agg ((sha xs).map (Value.int .u8)).toArray) ∧ Kept (fun _ => False) W w') := fun W b hW hb =>
  of_one _ xs W b hb (hx.kept hW (fun _ _ f => f)) hr (laid_kept hL hW (fun f => f)) (by omega)
 have HC := hid_of (fun W => cut_ok (sha xs) k (sha_len xs) h1 h2 W)
 have hfl := frontOf_len k xs h2
 have hone := oneCells .u8 (frontOf k xs)
 have hs28 : (Tryz.prog.info? 29).map (·.size) = some ((frontOf k xs).map (Value.int .u8)).toArray.size := by simp [size28, hfl]
 have HOS : Hid (32 = ((frontOf k xs).map (Value.int .u8)).toArray.size) := by show 32 = _; simp [hfl]
 have HF : Hid (cutL (sha xs) k = frontOf k xs) := rfl
 rw [HF.out] at HC
 unfold dv
 have HCW := hid_of hc
 clear hc hL hx hr HF hfl
 generalize ((sha xs).map (Value.int .u8)).toArray = os at *
 generalize ((frontOf k xs).map (Value.int .u8)).toArray = cs at *
 go_enter Tryz.func37, Tryz.ntmps37
 go_wp2
 have HA : Hid ((w.alloc (.cells z32 29)).heap[w.heap.size]? = some (.cells z32 29 (0, 0))) := alloc_new _ _ rfl
 have HKA : Hid (Kept (fun _ => False) w (w.alloc (.cells z32 29))) := (Kept.refl _ w).alloc _
 generalize w.alloc (.cells z32 29) = wA at *
 have cA := HKA.out.cell HCW.out (fun f => f)
 go_cut [5, 6] (fun v5 v6 wx => ∃ b : Nat, v5 = .pointer (some ⟨b, 0, none⟩) ∧ v6 = .int .i64 0 ∧ wx.heap[b]? = some (.cells cs 29 (0, 0)) ∧ Kept (fun _ => False) wA wx)
 case first =>
  refine wp_region_held_drew (S := fun w' => w'.cell? ⟨s, 0, none⟩ = some (.int .i64 (k : Int))) (by kernel_rfl) cA (fun hHeld => ?_)
  refine tkp (v := ?_) 0 rfl ?_ ?_; rotate_left 1
  ·intro w hSw; go_simp; try with_reducible rfl
  try simp only [Act.put, tdy]
  iterate 4
   refine tkn (v := ?_) 3 rfl ?_ ?_; rotate_left 1
   ·intro w hSw; go_simp; try with_reducible rfl
   try simp only [Act.put, tdy]
  have K0 : Hid (Kept (fun _ => False) wA wA) := Kept.refl _ _
  refine wpAnyH_ready (rs := [1, 11]) (by kernel_rfl) (by simp) ?_
  refine AllReadyH.cons rfl (fun K hK => ?_) ?_
  ·go_simp
   have K1 : Hid (Kept (fun _ => False) wA (wA.alloc (.cells #[.slice ao xs.length cc] 27))) := K0.out.alloc _
   have P1 : Hid ((wA.alloc (.cells #[.slice ao xs.length cc] 27)).heap[wA.heap.size]? = some (.cells #[.slice ao xs.length cc] 27 (0, 0))) := alloc_new _ _ rfl
   refine hK.out _ _ (K1.out.cell cA (fun f => f)) (fun hHeld => ?_)
   clear hK K
   try simp only [Act.put, tdy]
   generalize wA.alloc (.cells #[.slice ao xs.length cc] 27) = W1 at *
   refine wpAnyH_ready (rs := [2, 11]) (by kernel_rfl) (by simp) ?_
   refine AllReadyH.cons rfl (fun K hK => ?_) ?_
   ·go_simp
    refine (HO.out W1.drew wA.heap.size (HKA.out.trans K1.out.drew) P1.out).mono ?_
    rintro e W2 ⟨rfl, hk2⟩
    have K2 : Hid (Kept (fun _ => False) wA W2) := K1.out.drew.trans hk2
    refine hK.out _ _ (K2.out.cell cA (fun f => f)) (fun hHeld => ?_)
    clear hK K
    try simp only [Act.put, tdy]
    refine wpAnyH_ready (rs := [7, 11]) (by kernel_rfl) (by simp) ?_
    refine AllReadyH.cons rfl (fun K hK => ?_) ?_
    ·go_simp
     refine (HC.out _).mono ?_
     rintro e W3 ⟨rfl, hk3⟩
     have K3 : Hid (Kept (fun _ => False) wA W3) := K2.out.trans hk3
     refine hK.out _ _ (K3.out.cell cA (fun f => f)) (fun hHeld => ?_)
     clear hK K
     try simp only [Act.put, tdy]
     iterate 3
      refine tkn (v := ?_) 8 rfl ?_ ?_; rotate_left 1
      ·intro w hSw; go_simp; try with_reducible rfl
      try simp only [Act.put, tdy]
     refine wpAnyH_ready (rs := [11]) (by kernel_rfl) (by simp) ?_
     refine AllReadyH.cons rfl (fun K hK => ?_) ?_
     ·go_simp
      have K4 : Hid (Kept (fun _ => False) wA (W3.alloc (.cells z32 29))) := K3.out.alloc _
      have F4 : Hid ((W3.alloc (.cells z32 29)).heap[W3.heap.size]? = some (.cells z32 29 (0, 0))) := alloc_new _ _ rfl
      have hbF4 : wA.heap.size ≤ W3.heap.size := K3.out.size
      refine hK.out _ _ (K4.out.cell cA (fun f => f)) (fun hHeld => ?_)
      clear hK K
      try simp only [Act.put, tdy]
      generalize W3.alloc (.cells z32 29) = W4 at *
      refine wpAnyH_ready (rs := [12]) (by kernel_rfl) (by simp) ?_
      refine AllReadyH.cons rfl (fun K hK => ?_) .nil
      refine stp_store_row rfl 29 _ _ rfl W3.heap.size cs rfl rfl 29 _ F4.out hs28 HOS.out hone ?_
      have K5 : Hid (Kept (fun _ => False) wA (W4.setRow W3.heap.size cs)) := K4.out.setRow (.inl hbF4) _
      have G5 : Hid ((W4.setRow W3.heap.size cs).heap[W3.heap.size]? = some (.cells cs 29 (0, 0))) := setRow_heap _ _ _ _ 29 (0, 0) F4.out
      refine hK.out _ _ (K5.out.cell cA (fun f => f)) (fun hHeld => ?_)
      clear hK K
      try simp only [Act.put, tdy]
      refine tkp (v := ?_) 13 rfl ?_ ?_; rotate_left 1
      ·intro w hSw; go_simp; try with_reducible rfl
      try simp only [Act.put, tdy]
      refine wpAnyH_done (by kernel_rfl) ?_ _
      go_wp2_with fail
      go_meet
      exact ⟨_, rfl, rfl, G5.out, K5.out⟩
     exact .nil
    refine AllReadyH.cons rfl (fun K hK => ?_) ?_
    ·go_simp
     have K6 : Hid (Kept (fun _ => False) wA (W2.alloc (.cells z32 29))) := K2.out.alloc _
     have F6 : Hid ((W2.alloc (.cells z32 29)).heap[W2.heap.size]? = some (.cells z32 29 (0, 0))) := alloc_new _ _ rfl
     have hbF6 : wA.heap.size ≤ W2.heap.size := K2.out.size
     refine hK.out _ _ (K6.out.cell cA (fun f => f)) (fun hHeld => ?_)
     clear hK K
     try simp only [Act.put, tdy]
     generalize W2.alloc (.cells z32 29) = W6 at *
     refine wpAnyH_ready (rs := [7]) (by kernel_rfl) (by simp) ?_
     refine AllReadyH.cons rfl (fun K hK => ?_) ?_
     ·go_simp
      refine (HC.out _).mono ?_
      rintro e W7 ⟨rfl, hk7⟩
      have K7 : Hid (Kept (fun _ => False) wA W7) := K6.out.trans hk7
      have F7 : Hid (W7.heap[W2.heap.size]? = some (.cells z32 29 (0, 0))) := (hk7.block _ (heap_lt F6.out) (fun f => f)).trans F6.out
      have hbF7 := hbF6
      refine hK.out _ _ (K7.out.cell cA (fun f => f)) (fun hHeld => ?_)
      clear hK K
      try simp only [Act.put, tdy]
      iterate 3
       refine tkn (v := ?_) 8 rfl ?_ ?_; rotate_left 1
       ·intro w hSw; go_simp; try with_reducible rfl
       try simp only [Act.put, tdy]
      refine wpAnyH_ready (rs := [12]) (by kernel_rfl) (by simp) ?_
      refine AllReadyH.cons rfl (fun K hK => ?_) .nil
      refine stp_store_row rfl 29 _ _ rfl W2.heap.size cs rfl rfl 29 _ F7.out hs28 HOS.out hone ?_
      have K8 : Hid (Kept (fun _ => False) wA (W7.setRow W2.heap.size cs)) := K7.out.setRow (.inl hbF7) _
      have G8 : Hid ((W7.setRow W2.heap.size cs).heap[W2.heap.size]? = some (.cells cs 29 (0, 0))) := setRow_heap _ _ _ _ 29 (0, 0) F7.out
      refine hK.out _ _ (K8.out.cell cA (fun f => f)) (fun hHeld => ?_)
      clear hK K
      try simp only [Act.put, tdy]
      refine tkp (v := ?_) 13 rfl ?_ ?_; rotate_left 1
      ·intro w hSw; go_simp; try with_reducible rfl
      try simp only [Act.put, tdy]
      refine wpAnyH_done (by kernel_rfl) ?_ _
      go_wp2_with fail
      go_meet
      exact ⟨_, rfl, rfl, G8.out, K8.out⟩
     exact .nil
    exact .nil
   refine AllReadyH.cons rfl (fun K hK => ?_) ?_
   ·go_simp
    have K9 : Hid (Kept (fun _ => False) wA (W1.alloc (.cells z32 29))) := K1.out.alloc _
    have F9 : Hid ((W1.alloc (.cells z32 29)).heap[W1.heap.size]? = some (.cells z32 29 (0, 0))) := alloc_new _ _ rfl
    have hbF9 : wA.heap.size ≤ W1.heap.size := K1.out.size
    have P9 : Hid ((W1.alloc (.cells z32 29)).heap[wA.heap.size]? = some (.cells #[.slice ao xs.length cc] 27 (0, 0))) := alloc_old P1.out
    refine hK.out _ _ (K9.out.cell cA (fun f => f)) (fun hHeld => ?_)
    clear hK K
    try simp only [Act.put, tdy]
    generalize W1.alloc (.cells z32 29) = W9 at *
    refine wpAnyH_ready (rs := [2]) (by kernel_rfl) (by simp) ?_
    refine AllReadyH.cons rfl (fun K hK => ?_) ?_
    ·go_simp
     refine (HO.out W9.drew wA.heap.size (HKA.out.trans K9.out.drew) P9.out).mono ?_
     rintro e W10 ⟨rfl, hk10⟩
     have K10 : Hid (Kept (fun _ => False) wA W10) := K9.out.drew.trans hk10
     have F10 : Hid (W10.heap[W1.heap.size]? = some (.cells z32 29 (0, 0))) := (hk10.block _ (heap_lt F9.out) (fun f => f)).trans F9.out
     have hbF10 := hbF9
     refine hK.out _ _ (K10.out.cell cA (fun f => f)) (fun hHeld => ?_)
     clear hK K
     try simp only [Act.put, tdy]
     refine wpAnyH_ready (rs := [7]) (by kernel_rfl) (by simp) ?_
     refine AllReadyH.cons rfl (fun K hK => ?_) ?_
     ·go_simp
      refine (HC.out _).mono ?_
      rintro e W11 ⟨rfl, hk11⟩
      have K11 : Hid (Kept (fun _ => False) wA W11) := K10.out.trans hk11
      have F11 : Hid (W11.heap[W1.heap.size]? = some (.cells z32 29 (0, 0))) := (hk11.block _ (heap_lt F10.out) (fun f => f)).trans F10.out
      have hbF11 := hbF10
      refine hK.out _ _ (K11.out.cell cA (fun f => f)) (fun hHeld => ?_)
      clear hK K
      try simp only [Act.put, tdy]
      iterate 3
       refine tkn (v := ?_) 8 rfl ?_ ?_; rotate_left 1
       ·intro w hSw; go_simp; try with_reducible rfl
       try simp only [Act.put, tdy]
      refine wpAnyH_ready (rs := [12]) (by kernel_rfl) (by simp) ?_
      refine AllReadyH.cons rfl (fun K hK => ?_) .nil
      refine stp_store_row rfl 29 _ _ rfl W1.heap.size cs rfl rfl 29 _ F11.out hs28 HOS.out hone ?_
      have K12 : Hid (Kept (fun _ => False) wA (W11.setRow W1.heap.size cs)) := K11.out.setRow (.inl hbF11) _
      have G12 : Hid ((W11.setRow W1.heap.size cs).heap[W1.heap.size]? = some (.cells cs 29 (0, 0))) := setRow_heap _ _ _ _ 29 (0, 0) F11.out
      refine hK.out _ _ (K12.out.cell cA (fun f => f)) (fun hHeld => ?_)
      clear hK K
      try simp only [Act.put, tdy]
      refine tkp (v := ?_) 13 rfl ?_ ?_; rotate_left 1
      ·intro w hSw; go_simp; try with_reducible rfl
      try simp only [Act.put, tdy]
      refine wpAnyH_done (by kernel_rfl) ?_ _
      go_wp2_with fail
      go_meet
      exact ⟨_, rfl, rfl, G12.out, K12.out⟩
     exact .nil
    exact .nil
   exact .nil
  refine AllReadyH.cons rfl (fun K hK => ?_) ?_
  ·go_simp
   have K13 : Hid (Kept (fun _ => False) wA (wA.alloc (.cells z32 29))) := K0.out.alloc _
   have F13 : Hid ((wA.alloc (.cells z32 29)).heap[wA.heap.size]? = some (.cells z32 29 (0, 0))) := alloc_new _ _ rfl
   have hbF13 : wA.heap.size ≤ wA.heap.size := K0.out.size
   refine hK.out _ _ (K13.out.cell cA (fun f => f)) (fun hHeld => ?_)
   clear hK K
   try simp only [Act.put, tdy]
   generalize wA.alloc (.cells z32 29) = W13 at *
   refine wpAnyH_ready (rs := [1]) (by kernel_rfl) (by simp) ?_
   refine AllReadyH.cons rfl (fun K hK => ?_) ?_
   ·go_simp
    have K14 : Hid (Kept (fun _ => False) wA (W13.alloc (.cells #[.slice ao xs.length cc] 27))) := K13.out.alloc _
    have P14 : Hid ((W13.alloc (.cells #[.slice ao xs.length cc] 27)).heap[W13.heap.size]? = some (.cells #[.slice ao xs.length cc] 27 (0, 0))) := alloc_new _ _ rfl
    have F14 : Hid ((W13.alloc (.cells #[.slice ao xs.length cc] 27)).heap[wA.heap.size]? = some (.cells z32 29 (0, 0))) := alloc_old F13.out
    have hbF14 := hbF13
    refine hK.out _ _ (K14.out.cell cA (fun f => f)) (fun hHeld => ?_)
    clear hK K
    try simp only [Act.put, tdy]
    generalize W13.alloc (.cells #[.slice ao xs.length cc] 27) = W14 at *
    refine wpAnyH_ready (rs := [2]) (by kernel_rfl) (by simp) ?_
    refine AllReadyH.cons rfl (fun K hK => ?_) ?_
    ·go_simp
     refine (HO.out W14.drew W13.heap.size (HKA.out.trans K14.out.drew) P14.out).mono ?_
     rintro e W15 ⟨rfl, hk15⟩
     have K15 : Hid (Kept (fun _ => False) wA W15) := K14.out.drew.trans hk15
     have F15 : Hid (W15.heap[wA.heap.size]? = some (.cells z32 29 (0, 0))) := (hk15.block _ (heap_lt F14.out) (fun f => f)).trans F14.out
     have hbF15 := hbF14
     refine hK.out _ _ (K15.out.cell cA (fun f => f)) (fun hHeld => ?_)
     clear hK K
     try simp only [Act.put, tdy]
     refine wpAnyH_ready (rs := [7]) (by kernel_rfl) (by simp) ?_
     refine AllReadyH.cons rfl (fun K hK => ?_) ?_
     ·go_simp
      refine (HC.out _).mono ?_
      rintro e W16 ⟨rfl, hk16⟩
      have K16 : Hid (Kept (fun _ => False) wA W16) := K15.out.trans hk16
      have F16 : Hid (W16.heap[wA.heap.size]? = some (.cells z32 29 (0, 0))) := (hk16.block _ (heap_lt F15.out) (fun f => f)).trans F15.out
      have hbF16 := hbF15
      refine hK.out _ _ (K16.out.cell cA (fun f => f)) (fun hHeld => ?_)
      clear hK K
      try simp only [Act.put, tdy]
      iterate 3
       refine tkn (v := ?_) 8 rfl ?_ ?_; rotate_left 1
       ·intro w hSw; go_simp; try with_reducible rfl
       try simp only [Act.put, tdy]
      refine wpAnyH_ready (rs := [12]) (by kernel_rfl) (by simp) ?_
      refine AllReadyH.cons rfl (fun K hK => ?_) .nil
      refine stp_store_row rfl 29 _ _ rfl wA.heap.size cs rfl rfl 29 _ F16.out hs28 HOS.out hone ?_
      have K17 : Hid (Kept (fun _ => False) wA (W16.setRow wA.heap.size cs)) := K16.out.setRow (.inl hbF16) _
      have G17 : Hid ((W16.setRow wA.heap.size cs).heap[wA.heap.size]? = some (.cells cs 29 (0, 0))) := setRow_heap _ _ _ _ 29 (0, 0) F16.out
      refine hK.out _ _ (K17.out.cell cA (fun f => f)) (fun hHeld => ?_)
      clear hK K
      try simp only [Act.put, tdy]
      refine tkp (v := ?_) 13 rfl ?_ ?_; rotate_left 1
      ·intro w hSw; go_simp; try with_reducible rfl
      try simp only [Act.put, tdy]
      refine wpAnyH_done (by kernel_rfl) ?_ _
      go_wp2_with fail
      go_meet
      exact ⟨_, rfl, rfl, G17.out, K17.out⟩
     exact .nil
    exact .nil
   exact .nil
  exact .nil
 case rest =>
  obtain ⟨b, rfl, rfl, hb, hk⟩ := hcut
  have HB := hid_of hb
  have HO5 := hid_of ((hk.block _ (heap_lt HA.out) (fun f => f)).trans HA.out)
  have HKR : Hid (Kept (fun _ => False) w (wc.setRow w.heap.size cs)) := (HKA.out.trans hk).setRow (.inl (Nat.le_refl _)) _
  have HRR := hid_of (setRow_heap wc w.heap.size _ cs 29 (0, 0) HO5.out)
  clear hb hk
  go_wp2_with (first | refine wpList_load_row rfl 29 _ rfl b rfl 29 cs (0, 0) _ HB.out Tryz.underlying29 rfl hs28 ?_ | refine wpList_store_row rfl 29 _ _ rfl w.heap.size cs rfl rfl 29 _ HO5.out hs28 HOS.out hone ?_)
  try simp only [Act.put]
  refine bodyPost_ret (v := .agg cs) ?_ rfl ⟨rfl, HKR.out⟩
  exact results_cell_row (by rfl) _ _ w.heap.size 29 cs (0, 0) _ (by rfl) HRR.out Tryz.underlying29 rfl hs28
end Go.Proofs.YtjdbmjkidljhpaaGreatDoor
namespace Go.Proofs.YtjdbmjkidljhpaaGreatDoor
open Go.RowKit
set_option linter.unusedVariables false
set_option maxRecDepth 100000
set_option linter.unusedSimpArgs false
theorem or_comm32 (a b : Int) : bits .or .u32 a b = bits .or .u32 b a := by
 unfold bits
 simp only [BitVec.or_comm]
set_option maxRecDepth 100000 in
set_option maxHeartbeats 1000000 in
theorem rturned_any (x : Int) (n : Nat) (h0 : 0 < n) (h1 : n < 32) (w : World) :
  Calls Tryz.prog 101 #[.int .u32 x, .int .i64 (n : Int)] w fun e w' => e = .returned (.int .u32 (ror x n)) ∧ Kept (fun _ => False) w w' := by
 have hb : (n : Int) < 32 := by omega
 have hn : (32 - (n : Int)).toNat = 32 - n := by omega
 go_enter Tryz.func101, Tryz.ntmps101
 go_wp2
 go_quiet (fail)
 go_wp2
 go_ret
 refine ⟨?_, kept_drewN (Kept.refl _ w) _⟩
 show Ending.returned (Value.int .u32 (bits .or .u32 (x / 2 ^ n) (x * 2 ^ (32 - n) % 4294967296))) = _
 rw [or_comm32]
 rfl
theorem rturned_int (x i : Int) (h0 : 0 < i) (h1 : i < 32) (w : World) :
  Calls Tryz.prog 101 #[.int .u32 x, .int .i64 i] w fun e w' => e = .returned (.int .u32 (ror x i.toNat)) ∧ Kept (fun _ => False) w w' := by
 obtain ⟨n, rfl⟩ := Int.eq_ofNat_of_zero_le (show 0 ≤ i by omega)
 exact rturned_any x n (by omega) (by omega) w
set_option maxRecDepth 100000 in
set_option maxHeartbeats 1000000 in
theorem rround_any (t : Nat) (ht : t < 64) (w : World) :
  Calls Tryz.prog 102 #[.int .i64 (t : Int)] w fun e w' => e = .returned (.int .u32 (kw.getD t 0)) ∧ Kept (fun _ => False) w w' := by
 have hkl : (kw.map (Value.int .u32)).toArray.size = 64 := rfl
 have hs79 : (Tryz.prog.info? 143).map (·.size) = some (kw.map (Value.int .u32)).toArray.size := by rw [size79, hkl]
 have h1 := oneCells .u32 kw
 have HC : Hid ((w.alloc (.cells (kw.map (Value.int .u32)).toArray 143)).cell? ⟨w.heap.size, t, none⟩ = some (.int .u32 (kw.getD t 0))) := by
  show _ = _
  rw [cell_block _ _ _ _ _ _ (alloc_new _ _ rfl)]
  have hk : t < kw.length := ht
  simp [List.getD, List.getElem?_eq_getElem hk]
 have htI : (t : Int) < 64 := by omega
 go_enter Tryz.func102, Tryz.ntmps102
 go_wp2_with (first | (refine wpList_store_row rfl 143 _ _ rfl w.heap.size (kw.map (Value.int .u32)).toArray rfl rfl 143 _ (alloc_new _ _ rfl) hs79 rfl h1 ?_; rw [setRow_new _ _ _ _ rfl]))
 go_ret
 refine ⟨?_, (Kept.refl _ w).alloc _⟩
 have hk : t < kw.length := ht
 rw [show kw.getD t 0 = kw[t]'hk by simp [List.getD, List.getElem?_eq_getElem hk]]
 rfl
theorem or_add32 (a b k : Nat) (hb : b < 2 ^ k) (ht : 2 ^ k * a + b < 4294967296) : bits .or .u32 ((2 ^ k * a : Nat) : Int) (b : Int) = ((2 ^ k * a + b : Nat) : Int) := by
 rw [u32_or_nat _ _ (by omega) (by omega), Nat.two_pow_add_eq_or_of_lt hb]
theorem word_is (bs : List Int) (hr : ∀ x ∈ bs, 0 ≤ x ∧ x < 256) (hl : bs.length = 64) (t : Nat) (ht : t < 16) (b0 b1 b2 b3 : Int) (h0 : bs.getD (4 * t) 0 = b0) (h1 : bs.getD (4 * t + 1) 0 = b1) (h2 : bs.getD (4 * t + 2) 0 = b2) (h3 : bs.getD (4 * t + 3) 0 = b3) :
  bits .or .u32 (bits .or .u32 (bits .or .u32 (b0 * 16777216 % 4294967296) (b1 * 65536 % 4294967296)) (b2 * 256 % 4294967296)) (b3 % 4294967296) = word bs t := by
 have key : ∀ j, j < 64 → ∃ c : Nat, c < 256 ∧ bs.getD j 0 = (c : Int) := fun j hj => by
  have := hr (bs.getD j 0) (by rw [List.getD, List.getElem?_eq_getElem (by omega)]; simp)
  exact ⟨(bs.getD j 0).toNat, by omega, by omega⟩
 obtain ⟨c0, k0, e0⟩ := key (4 * t) (by omega)
 obtain ⟨c1, k1, e1⟩ := key (4 * t + 1) (by omega)
 obtain ⟨c2, k2, e2⟩ := key (4 * t + 2) (by omega)
 obtain ⟨c3, k3, e3⟩ := key (4 * t + 3) (by omega)
 subst h0 h1 h2 h3
 unfold word up
 rw [e0, e1, e2, e3]
 have s1 : bits .or .u32 ((0 : Int) * 256 % 4294967296) (c0 : Int) = (c0 : Int) := by
  have := or_add32 0 c0 8 (by omega) (by omega)
  simpa using this
 have s2 : bits .or .u32 ((c0 : Int) * 256 % 4294967296) (c1 : Int) = ((256 * c0 + c1 : Nat) : Int) := by
  have := or_add32 c0 c1 8 (by omega) (by omega)
  rw [show ((c0 : Int) * 256 % 4294967296) = ((2 ^ 8 * c0 : Nat) : Int) by omega, this]
 have s3 : bits .or .u32 (((256 * c0 + c1 : Nat) : Int) * 256 % 4294967296) (c2 : Int) = ((256 * (256 * c0 + c1) + c2 : Nat) : Int) := by
  have := or_add32 (256 * c0 + c1) c2 8 (by omega) (by omega)
  rw [show (((256 * c0 + c1 : Nat) : Int) * 256 % 4294967296) = ((2 ^ 8 * (256 * c0 + c1) : Nat) : Int) by omega, this]
 have s4 : bits .or .u32 (((256 * (256 * c0 + c1) + c2 : Nat) : Int) * 256 % 4294967296) (c3 : Int) = ((256 * (256 * (256 * c0 + c1) + c2) + c3 : Nat) : Int) := by
  have := or_add32 (256 * (256 * c0 + c1) + c2) c3 8 (by omega) (by omega)
  rw [show (((256 * (256 * c0 + c1) + c2 : Nat) : Int) * 256 % 4294967296) = ((2 ^ 8 * (256 * (256 * c0 + c1) + c2) : Nat) : Int) by omega, this]
 rw [s1, s2, s3, s4]
 have r1 : bits .or .u32 ((c0 : Int) * 16777216 % 4294967296) ((c1 : Int) * 65536 % 4294967296) = ((65536 * (256 * c0 + c1) : Nat) : Int) := by
  have := or_add32 c0 (65536 * c1) 24 (by omega) (by omega)
  rw [show ((c0 : Int) * 16777216 % 4294967296) = ((2 ^ 24 * c0 : Nat) : Int) by omega, show ((c1 : Int) * 65536 % 4294967296) = ((65536 * c1 : Nat) : Int) by omega, this]
  omega
 have r2 : bits .or .u32 ((65536 * (256 * c0 + c1) : Nat) : Int) ((c2 : Int) * 256 % 4294967296) = ((256 * (256 * (256 * c0 + c1) + c2) : Nat) : Int) := by
  have := or_add32 (256 * c0 + c1) (256 * c2) 16 (by omega) (by omega)
  rw [show ((65536 * (256 * c0 + c1) : Nat) : Int) = ((2 ^ 16 * (256 * c0 + c1) : Nat) : Int) by omega, show ((c2 : Int) * 256 % 4294967296) = ((256 * c2 : Nat) : Int) by omega, this]
  omega
 have r3 : bits .or .u32 ((256 * (256 * (256 * c0 + c1) + c2) : Nat) : Int) ((c3 : Int) % 4294967296) = ((256 * (256 * (256 * c0 + c1) + c2) + c3 : Nat) : Int) := by
  have := or_add32 (256 * (256 * c0 + c1) + c2) c3 8 (by omega) (by omega)
  rw [show ((256 * (256 * (256 * c0 + c1) + c2) : Nat) : Int) = ((2 ^ 8 * (256 * (256 * c0 + c1) + c2) : Nat) : Int) by omega, show ((c3 : Int) % 4294967296) = (c3 : Int) by omega, this]
 rw [r1, r2, r3]
end Go.Proofs.YtjdbmjkidljhpaaGreatDoor

/-
  TAq: Aq.
-/
import Derived.Test.YtgoabnehdmdikaaGreatDoorTAm
namespace Go.Proofs.YtgoabnehdmdikaaGreatDoor
open Go.RowKit
set_option linter.unusedVariables false
set_option linter.unusedSimpArgs false
set_option maxRecDepth 100000

theorem neq51 (w : World) (a b : Int) : (binOp .neq 75 (.agg #[.int .i64 a, .int .i64 b]) (.agg #[.int .i64 a, .int .i64 b])).run Tryz.prog w = .ok (.bool false) w := by
  have := run_neq52 w a b a b
  simpa using this
set_option maxHeartbeats 4000000 in
theorem same_code (g1 c1 g2 c2 : Nat) (w : World) (h1 : w.rangeAt g1 0 [.int .i64 18, .int .i64 0]) (h2 : w.rangeAt g2 0 [.int .i64 18, .int .i64 0]) :
    Calls Tryz.prog 25 #[.slice (some ⟨g1, 0, none⟩) 1 c1, .slice (some ⟨g2, 0, none⟩) 1 c2] w fun e w' => e = .returned (.bool true) ∧ Kept (fun _ => False) w w' := by
  have HR1 := hid_of h1
  have HR2 := hid_of h2
  clear h1 h2
  go_enter Tryz.func25, Tryz.ntmps25
  go_wp2_with fail
  go_loopw [5] (fun iv wr => Hid (Kept (fun _ => False) w wr) ∧ (iv = .int .i64 0 ∨ iv = .int .i64 1)) (fun iv _ => 1 - (intOf iv).toNat)
  case atStart => exact ⟨Kept.refl _ _, .inl rfl⟩
  case round =>
    obtain ⟨HK, hc⟩ := hrel
    rcases hc with rfl | rfl
    · go_upto_region 6 with fail
      have hKwd : Kept (fun _ => False) wr wr.drew := (Kept.refl _ _).drew
      have HSM : Hid (∀ w', Kept (fun _ => False) wr w' → w'.cell? ⟨g1, 0, none⟩ = some (.int .i64 18) ∧ w'.cell? ⟨g1, 1, none⟩ = some (.int .i64 0) ∧ w'.cell? ⟨g2, 0, none⟩ = some (.int .i64 18) ∧ w'.cell? ⟨g2, 1, none⟩ = some (.int .i64 0)) := fun w' hw =>
        ⟨(HK.out.trans hw).cell (HR1.out 0 _ rfl) (fun f => f), (HK.out.trans hw).cell (HR1.out 1 _ rfl) (fun f => f), (HK.out.trans hw).cell (HR2.out 0 _ rfl) (fun f => f), (HK.out.trans hw).cell (HR2.out 1 _ rfl) (fun f => f)⟩
      refine wp_region_held_drew (S := fun w' => Kept (fun _ => False) wr w') (by kernel_rfl) ((Kept.refl _ _).drew) (fun hHeld => ?_)
      generalize wr.drew = wd at *
      iterate 9
        refine tkn (v := ?_) 0 rfl ?_ ?_; rotate_left 1
        · intro w hSw; obtain ⟨s0, s1, s2, s3⟩ := HSM.out w hSw; have s4 := neq51 w 18 0; go_simp; try with_reducible rfl
        try simp only [Act.put, tdy]
      refine wpAnyH_done (by kernel_rfl) ?_ _
      have HK2 := hid_of (HK.out.trans hKwd)
      clear hHeld HSM hKwd HK
      go_wp2
      go_roundw
      case rel => exact ⟨HK2, .inr rfl⟩
      case measure => simp [intOf]
    · go_wp2
      go_ret
      exact ⟨rfl, HK.out⟩
set_option maxHeartbeats 16000000 in
theorem same_prog (fa1 fa2 : Option Addr) (fc1 fc2 B1 B2 : Nat) (w : World) (h1 : Pg1 w B1 (.slice fa1 1 fc1)) (h2 : Pg1 w B2 (.slice fa2 1 fc2)) :
    Calls Tryz.prog 11 #[.agg #[.int .i64 0, .slice none 0 0, .slice fa1 1 fc1], .agg #[.int .i64 0, .slice none 0 0, .slice fa2 1 fc2]] w fun e w' => e = .returned (.bool true) ∧ Kept (fun _ => False) w w' := by
  obtain ⟨cv1, hf1, hc1⟩ := h1
  obtain ⟨gf1, cf1, hv1⟩ := own_at hf1 (by decide)
  cases hv1
  obtain ⟨gc1, cc1, rfl⟩ := own_at hc1 (by decide)
  obtain ⟨cv2, hf2, hc2⟩ := h2
  obtain ⟨gf2, cf2, hv2⟩ := own_at hf2 (by decide)
  cases hv2
  obtain ⟨gc2, cc2, rfl⟩ := own_at hc2 (by decide)
  have HF1 := hid_of (range_own hf1)
  have HF2 := hid_of (range_own hf2)
  have HC1 := hid_of (range_own hc1)
  have HC2 := hid_of (range_own hc2)
  obtain ⟨W1, hW1⟩ : ∃ W, W = (w.alloc (.cells #[.int .i64 0, .slice none 0 0, .slice (some ⟨gf1, 0, none⟩) 1 fc1] 26)).alloc (.cells #[.int .i64 0, .slice none 0 0, .slice (some ⟨gf2, 0, none⟩) 1 fc2] 26) := ⟨_, rfl⟩
  obtain ⟨k1, x1, x2⟩ := allocs2 _ _ _ _ _ _ hW1
  have HK1 := hid_of k1
  have HX1 := hid_of x1
  have HX2 := hid_of x2
  clear hf1 hc1 hf2 hc2 k1 x1 x2
  go_enter Tryz.func11, Tryz.ntmps11
  go_upto_region 1 with fail
  rw [← hW1]
  clear hW1
  generalize w.heap.size + 1 = gb at *
  generalize w.heap.size = ga at *
  obtain ⟨a0, a1, a2, _⟩ := look3 HX1.out
  obtain ⟨b0, b1, b2, _⟩ := look3 HX2.out
  have hcv := conv_str W1 (.slice none 0 0) [] (.inl ⟨rfl, _, _, rfl⟩)
  go_wp2_with fail
  clear a0 a1 a2 b0 b1 b2 hcv
  go_loopw [5] (fun iv wr => Hid (Kept (fun _ => False) W1 wr) ∧ (iv = .int .i64 0 ∨ iv = .int .i64 1)) (fun iv _ => 1 - (intOf iv).toNat)
  case atStart => exact ⟨Kept.refl _ _, .inl rfl⟩
  case round =>
    obtain ⟨HK, hc⟩ := hrel
    obtain ⟨a0, a1, a2, _⟩ := look3 (box_kept HK.out HX1.out (fun f => f))
    rcases hc with rfl | rfl
    · have hkw := HK1.out.trans HK.out
      have r0 : wr.cell? ⟨gf1, 0, none⟩ = some (.int .i64 0) := hkw.cell (HF1.out 0 _ rfl) (fun f => f)
      have r1 : wr.cell? ⟨gf1, 1, none⟩ = some (.int .i64 0) := hkw.cell (HF1.out 1 _ rfl) (fun f => f)
      have r2 : wr.cell? ⟨gf1, 2, none⟩ = some (.int .i64 1) := hkw.cell (HF1.out 2 _ rfl) (fun f => f)
      have r3 : wr.cell? ⟨gf1, 3, none⟩ = some (.slice (some ⟨gc1, 0, none⟩) 1 cc1) := hkw.cell (HF1.out 3 _ rfl) (fun f => f)
      have hk5 : Kept (fun _ => False) wr (wr.alloc (.cells #[.int .i64 0, .int .i64 0, .int .i64 1, .slice (some ⟨gc1, 0, none⟩) 1 cc1] 78)) := (Kept.refl _ _).alloc _
      have HY := hid_of (heap_alloc_new wr (.cells #[.int .i64 0, .int .i64 0, .int .i64 1, .slice (some ⟨gc1, 0, none⟩) 1 cc1] 78))
      have HK5 := hid_of (HK.out.trans hk5)
      clear hkw hk5
      go_upto_region 7 with fail
      clear r0 r1 r2 r3 a0 a1 a2
      generalize wr.alloc (.cells #[.int .i64 0, .int .i64 0, .int .i64 1, .slice (some ⟨gc1, 0, none⟩) 1 cc1] 78) = w5 at *
      generalize wr.heap.size = gy at *
      obtain ⟨b0, b1, b2, _⟩ := look3 (box_kept HK5.out HX2.out (fun f => f))
      have hkw := HK1.out.trans HK5.out
      have r0 : w5.cell? ⟨gf2, 0, none⟩ = some (.int .i64 0) := hkw.cell (HF2.out 0 _ rfl) (fun f => f)
      have r1 : w5.cell? ⟨gf2, 1, none⟩ = some (.int .i64 0) := hkw.cell (HF2.out 1 _ rfl) (fun f => f)
      have r2 : w5.cell? ⟨gf2, 2, none⟩ = some (.int .i64 1) := hkw.cell (HF2.out 2 _ rfl) (fun f => f)
      have r3 : w5.cell? ⟨gf2, 3, none⟩ = some (.slice (some ⟨gc2, 0, none⟩) 1 cc2) := hkw.cell (HF2.out 3 _ rfl) (fun f => f)
      have hk6 : Kept (fun _ => False) w5 (w5.alloc (.cells #[.int .i64 0, .int .i64 0, .int .i64 1, .slice (some ⟨gc2, 0, none⟩) 1 cc2] 78)) := (Kept.refl _ _).alloc _
      have HZ := hid_of (heap_alloc_new w5 (.cells #[.int .i64 0, .int .i64 0, .int .i64 1, .slice (some ⟨gc2, 0, none⟩) 1 cc2] 78))
      have HY6 := hid_of (box_kept hk6 HY.out (fun f => f))
      have HK6 := hid_of (HK5.out.trans hk6)
      clear hkw hk6 HY HK5
      go_upto_region 8 with fail
      clear r0 r1 r2 r3 b0 b1 b2
      generalize w5.alloc (.cells #[.int .i64 0, .int .i64 0, .int .i64 1, .slice (some ⟨gc2, 0, none⟩) 1 cc2] 78) = w6 at *
      generalize w5.heap.size = gz at *
      obtain ⟨y0, y1, y2, y3, _⟩ := look4 HY6.out
      obtain ⟨z0, z1, z2, z3, _⟩ := look4 HZ.out
      have hkw := HK1.out.trans HK6.out
      have HSC := hid_of (same_code gc1 cc1 gc2 cc2 w6 (fun j v hv => hkw.cell (HC1.out j v hv) (fun f => f)) (fun j v hv => hkw.cell (HC2.out j v hv) (fun f => f)))
      clear hkw
      go_wp2_with fail
      refine HSC.out.mono ?_
      rintro e w7 ⟨rfl, hk7⟩
      have HK7 := hid_of (HK6.out.trans hk7)
      clear hk7 HSC HK6 HY6 HZ y0 y1 y2 y3 z0 z1 z2 z3
      go_wp2
      go_roundw
      case rel => exact ⟨HK7, .inr rfl⟩
      case measure => simp [intOf]
    · go_wp2
      go_ret
      exact ⟨rfl, HK1.out.trans HK.out⟩
set_option maxHeartbeats 8000000 in
theorem one_any (w : World) : Calls Tryz.prog 18 #[] w fun e w' => ∃ fa fc, e = .returned (.agg #[.int .i64 0, .slice none 0 0, .slice fa 1 fc]) ∧ Pg1 w' w.heap.size (.slice fa 1 fc) ∧ Kept (fun _ => False) w w' := by
  obtain ⟨W1, hW1⟩ : ∃ W, W = w.alloc (.cells #[.int .i64 0, .slice none 0 0, .slice none 0 0] 26) := ⟨_, rfl⟩
  have k1 : Kept (fun _ => False) w W1 := by rw [hW1]; exact (Kept.refl _ _).alloc _
  have x1 : W1.heap[w.heap.size]? = some (.cells #[.int .i64 0, .slice none 0 0, .slice none 0 0] 26 (0, 0)) := by rw [hW1]; exact heap_alloc_new _ _
  obtain ⟨W3, hW3⟩ : ∃ W, W = (W1.alloc (.cells #[.int .i64 18, .int .i64 0] 75)).alloc (.cells #[.int .i64 0, .int .i64 0, .int .i64 1, .slice (some ⟨W1.heap.size, 0, none⟩) 1 1] 78) := ⟨_, rfl⟩
  obtain ⟨k3, y1, y2⟩ := allocs2 _ _ _ _ _ _ hW3
  have HPG : Hid (Pg1 W3 w.heap.size (.slice (some ⟨W1.heap.size + 1, 0, none⟩) 1 1)) :=
    ⟨_, ⟨rfl, .inr ⟨_, 1, _, rfl, Nat.le_trans k1.size (Nat.le_succ _), y2, Nat.le_refl _, by decide, rfl, rfl⟩⟩, ⟨rfl, .inr ⟨_, 1, _, rfl, k1.size, y1, Nat.le_refl _, by decide, rfl, rfl⟩⟩⟩
  have HX3 := hid_of (box_kept k3 x1 (fun f => f))
  have HK3 := hid_of (k1.trans k3)
  clear k1 x1 k3 y1 y2
  go_enter Tryz.func18, Tryz.ntmps18
  go_upto_region 1 with fail
  rw [← hW1]
  obtain ⟨p0, hp0⟩ : ∃ p, p = w.heap.size := ⟨_, rfl⟩
  rw [← hp0] at HX3 ⊢
  have HPW : Hid (w.heap.size ≤ p0) := by rw [hp0]; exact Nat.le_refl _
  have HPE := hid_of hp0
  clear hW1 hp0
  obtain ⟨hx, hkx⟩ := set3 W3 p0 26 _ _ _ (.int .i64 0) (.slice none 0 0) (.slice (some ⟨W1.heap.size + 1, 0, none⟩) 1 1) HX3.out
  obtain ⟨c0, c1, c2, f0, f1, f2⟩ := look3 HX3.out
  have HX4 := hid_of hx
  have HK4 := hid_of (HK3.out.step hkx (fun i hi e => by have := HPW.out; omega))
  have HPG4 := hid_of (HPG.out.put HX3.out hkx)
  rw [hW3] at c0 c1 c2 f0 f1 f2 HX4 HK4 HPG4
  clear hx hkx HX3 HK3 HPG
  go_wp2
  refine bodyPost_ret (v := .agg #[.int .i64 0, .slice none 0 0, .slice (some ⟨W1.heap.size + 1, 0, none⟩) 1 1]) ?_ rfl ⟨_, _, rfl, HPG4.out, HK4.out⟩
  exact results_cell_row (by rfl) _ _ p0 26 _ (0, 0) _ (by rfl) HX4.out Tryz.underlying26 rfl size37
end Go.Proofs.YtgoabnehdmdikaaGreatDoor

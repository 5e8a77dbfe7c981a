/-
  TAr: Ar.
-/
import Derived.Test.YtgoabnehdmdikaaGreatDoorTAq
namespace Go.Proofs.YtgoabnehdmdikaaGreatDoor
open Go.RowKit
set_option linter.unusedVariables false
set_option linter.unusedSimpArgs false
set_option maxRecDepth 100000

abbrev outB : ByteArray := ⟨#[109, 101, 109, 111, 114, 121, 32, 48, 10, 102, 117, 110, 99, 32, 102, 48, 32, 48, 32, 48, 32, 49, 10, 9, 114, 101, 116, 10]⟩
theorem eq27 (w : World) : (binOp .eql 28 .nilIface .nilIface).run Tryz.prog w = .ok (.bool true) w := by kernel_rfl
theorem eq9 (w : World) : (binOp .eql 9 (.string outB) (.string outB)).run Tryz.prog w = .ok (.bool true) w := by kernel_rfl
set_option maxHeartbeats 16000000 in
theorem known_any (hc1 : CutR ln1B qs1) (hc2 : CutR ln2B qs2) (w : World) (hG : Gl w) :
    Calls Tryz.prog 7 #[] w fun e w' => e = .returned (.bool true) ∧ Kept (fun _ => False) w w' := by
  have HP := hid_of (parse_src hc1 hc2 w hG)
  have HG := hid_of hG
  clear hc1 hc2 hG
  go_enter Tryz.func7, Tryz.ntmps7
  go_wp2_with fail
  refine HP.out.mono ?_
  rintro e w1 ⟨fa, fc, rfl, hk1, hpg⟩
  have hka : Kept (fun _ => False) w1 (w1.alloc (.cells #[.int .i64 0, .slice none 0 0, .slice fa 1 fc] 26)) := (Kept.refl _ _).alloc _
  have HX := hid_of (heap_alloc_new w1 (.cells #[.int .i64 0, .slice none 0 0, .slice fa 1 fc] 26))
  have HPG := hid_of (hpg.same hka)
  have HK := hid_of (hk1.trans hka)
  clear hka hk1 hpg HP
  go_upto_region 2 with fail
  generalize w1.alloc (.cells #[.int .i64 0, .slice none 0 0, .slice fa 1 fc] 26) = w2 at *
  generalize w1.heap.size = gp at *
  go_wp2_with fail
  refine (one_any w2).mono ?_
  rintro e w3 ⟨fa3, fc3, rfl, hpg3, hk3⟩
  have HPR := hid_of (print_one fa3 fc3 _ w3 (HG.out.same (HK.out.trans hk3)) hpg3)
  have HX3 := hid_of (box_kept hk3 HX.out (fun f => f))
  have HPG3 := hid_of (HPG.out.same hk3)
  have HK3 := hid_of (HK.out.trans hk3)
  clear hpg3 hk3 HX HPG HK
  go_wp2_with fail
  refine HPR.out.mono ?_
  rintro e w4 ⟨rfl, hk4⟩
  have HX4 := hid_of (box_kept hk4 HX3.out (fun f => f))
  have HPG4 := hid_of (HPG3.out.same hk4)
  have HK4 := hid_of (HK3.out.trans hk4)
  clear hk4 HPR HX3 HPG3 HK3
  go_upto_region 3 with fail
  have hKwd : Kept (fun _ => False) w4 w4.drew := (Kept.refl _ _).drew
  have HSM : Hid (∀ w', Kept (fun _ => False) w4 w' → w'.cell? ⟨gp, 0, none⟩ = some (.int .i64 0) ∧ w'.cell? ⟨gp, 1, none⟩ = some (.slice none 0 0) ∧ w'.cell? ⟨gp, 2, none⟩ = some (.slice fa 1 fc)) := fun w' hw =>
    ⟨hw.cell (cell_block _ _ 0 _ _ _ HX4.out) (fun f => f), hw.cell (cell_block _ _ 1 _ _ _ HX4.out) (fun f => f), hw.cell (cell_block _ _ 2 _ _ _ HX4.out) (fun f => f)⟩
  refine wp_region_held_drew (S := fun w' => Kept (fun _ => False) w4 w') (by kernel_rfl) ((Kept.refl _ _).drew) (fun hHeld => ?_)
  generalize w4.drew = wd at *
  have HO := hid_of (one_any wd)
  iterate 8
    refine tkn (v := ?_) 0 rfl ?_ ?_; rotate_left 1
    · intro w hSw; obtain ⟨s0, s1, s2⟩ := HSM.out w hSw; have s3 := eq27 w; have s4 := eq9 w; go_simp; try with_reducible rfl
    try simp only [Act.put, tdy]
  refine wpAnyH_ready (rs := [8]) (by kernel_rfl) (by simp) ?_
  refine AllReadyH.cons rfl (fun K hK => ?_) AllReadyH.nil
  go_simp
  refine HO.out.mono ?_
  rintro e w5 ⟨fa5, fc5, rfl, hpg5, hk5⟩
  have HSA := hid_of (same_prog fa fa5 fc fc5 _ _ w5 ((HPG4.out.same hKwd).same hk5) hpg5)
  have HK5 := hid_of (hKwd.trans hk5)
  refine hK.out _ _ (hKwd.trans hk5) (fun hHeld => ?_)
  clear hK K hpg5 HO
  try simp only [Act.put, tdy]
  refine wpAnyH_ready (rs := [9]) (by kernel_rfl) (by simp) ?_
  refine AllReadyH.cons rfl (fun K hK => ?_) AllReadyH.nil
  go_simp
  refine HSA.out.mono ?_
  rintro e w6 ⟨rfl, hk6⟩
  have HK6 := hid_of (HK4.out.trans (HK5.out.trans hk6))
  refine hK.out _ _ (HK5.out.trans hk6) (fun hHeld => ?_)
  clear hK K HSA
  try simp only [Act.put, tdy]
  iterate 5
    refine tkn (v := ?_) 10 rfl ?_ ?_; rotate_left 1
    · intro w hSw; obtain ⟨s0, s1, s2⟩ := HSM.out w hSw; have s3 := eq27 w; have s4 := eq9 w; go_simp; try with_reducible rfl
    try simp only [Act.put, tdy]
  refine wpAnyH_ready (rs := [15]) (by kernel_rfl) (by simp) ?_
  refine AllReadyH.cons rfl (fun K hK => ?_) AllReadyH.nil
  go_simp
  refine hK.out _ _ hHeld (fun hHeld => ?_)
  clear hK K
  try simp only [Act.put, tdy]
  refine wpAnyH_done (by kernel_rfl) ?_ _
  clear hHeld hk6 hk5 hKwd HSM HPG4 HX4 HK4 HK5
  go_wp2
  go_ret
  exact ⟨rfl, HK6.out⟩
end Go.Proofs.YtgoabnehdmdikaaGreatDoor

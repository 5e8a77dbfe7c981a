import Derived.Test.YtpfmhibdmehlcaaGreatDoorTBa21
namespace Go.Proofs.YtpfmhibdmehlcaaGreatDoor
open Go.RowKit
set_option linter.unusedVariables false
set_option linter.unusedSimpArgs false
set_option maxRecDepth 100000
theorem size27b : (Tryz.prog.info? 81).map (·.size) = some 4 := by kernel_rfl
set_option maxHeartbeats 4000000 in
theorem rof_23 (w : World) : Calls Tryz.prog 32 #[.int .i64 23] w fun e w' => e = .returned (.tuple #[.agg (insL.getD 23 Sh.none).cells.toArray, .bool true]) ∧ Kept (fun _ => False) w w' := by
 have hX := heap_alloc2_old w (.cells (insL.getD 23 Sh.none).cells.toArray 81) (.cells (insL.getD 23 Sh.none).cells.toArray 81)
 have hK := ((Kept.refl (fun _ => False) w).alloc (.cells (insL.getD 23 Sh.none).cells.toArray 81)).alloc (.cells (insL.getD 23 Sh.none).cells.toArray 81)
 have HX := hid_of hX
 have HK := hid_of hK
 clear hX hK
 go_enter Tryz.func32, Tryz.ntmps32
 go_wp2_with fail
 refine (word_is _ 23 (insL.getD 23 Sh.none).nm _ (by decide +kernel) (by decide) (by kernel_rfl)).mono ?_
 rintro e w1 ⟨rfl, rfl⟩
 rw [show (insL.getD 23 Sh.none).nm = _ from rfl]
 go_wp2_with fail
 refine (operand_ref _ 23 (by decide)).mono ?_
 rintro e w2 ⟨rfl, rfl⟩
 rw [show ((kix 23 : Nat) : Int) = 0 from by kernel_rfl]
 go_wp2
 refine bodyPost_ret (v := .tuple #[.agg (insL.getD 23 Sh.none).cells.toArray, .bool true]) ?_ rfl ⟨rfl, HK.out⟩
 exact results_row_tmp (by rfl) _ _ ⟨w.heap.size, 0, none⟩ _ _ (by rfl) (by rfl) (run_loadVar_row _ w.heap.size 81 81 _ (0, 0) _ HX.out Tryz.underlying81 rfl size27b)
set_option maxHeartbeats 4000000 in
theorem rof_24 (w : World) : Calls Tryz.prog 32 #[.int .i64 24] w fun e w' => e = .returned (.tuple #[.agg (insL.getD 24 Sh.none).cells.toArray, .bool true]) ∧ Kept (fun _ => False) w w' := by
 have hX := heap_alloc2_old w (.cells (insL.getD 24 Sh.none).cells.toArray 81) (.cells (insL.getD 24 Sh.none).cells.toArray 81)
 have hK := ((Kept.refl (fun _ => False) w).alloc (.cells (insL.getD 24 Sh.none).cells.toArray 81)).alloc (.cells (insL.getD 24 Sh.none).cells.toArray 81)
 have HX := hid_of hX
 have HK := hid_of hK
 clear hX hK
 go_enter Tryz.func32, Tryz.ntmps32
 go_wp2_with fail
 refine (word_is _ 24 (insL.getD 24 Sh.none).nm _ (by decide +kernel) (by decide) (by kernel_rfl)).mono ?_
 rintro e w1 ⟨rfl, rfl⟩
 rw [show (insL.getD 24 Sh.none).nm = _ from rfl]
 go_wp2_with fail
 refine (operand_ref _ 24 (by decide)).mono ?_
 rintro e w2 ⟨rfl, rfl⟩
 rw [show ((kix 24 : Nat) : Int) = 0 from by kernel_rfl]
 go_wp2
 refine bodyPost_ret (v := .tuple #[.agg (insL.getD 24 Sh.none).cells.toArray, .bool true]) ?_ rfl ⟨rfl, HK.out⟩
 exact results_row_tmp (by rfl) _ _ ⟨w.heap.size, 0, none⟩ _ _ (by rfl) (by rfl) (run_loadVar_row _ w.heap.size 81 81 _ (0, 0) _ HX.out Tryz.underlying81 rfl size27b)
set_option maxHeartbeats 4000000 in
theorem rof_25 (w : World) : Calls Tryz.prog 32 #[.int .i64 25] w fun e w' => e = .returned (.tuple #[.agg (insL.getD 25 Sh.none).cells.toArray, .bool true]) ∧ Kept (fun _ => False) w w' := by
 have hX := heap_alloc2_old w (.cells (insL.getD 25 Sh.none).cells.toArray 81) (.cells (insL.getD 25 Sh.none).cells.toArray 81)
 have hK := ((Kept.refl (fun _ => False) w).alloc (.cells (insL.getD 25 Sh.none).cells.toArray 81)).alloc (.cells (insL.getD 25 Sh.none).cells.toArray 81)
 have HX := hid_of hX
 have HK := hid_of hK
 clear hX hK
 go_enter Tryz.func32, Tryz.ntmps32
 go_wp2_with fail
 refine (word_is _ 25 (insL.getD 25 Sh.none).nm _ (by decide +kernel) (by decide) (by kernel_rfl)).mono ?_
 rintro e w1 ⟨rfl, rfl⟩
 rw [show (insL.getD 25 Sh.none).nm = _ from rfl]
 go_wp2_with fail
 refine (operand_ref _ 25 (by decide)).mono ?_
 rintro e w2 ⟨rfl, rfl⟩
 rw [show ((kix 25 : Nat) : Int) = 0 from by kernel_rfl]
 go_wp2
 refine bodyPost_ret (v := .tuple #[.agg (insL.getD 25 Sh.none).cells.toArray, .bool true]) ?_ rfl ⟨rfl, HK.out⟩
 exact results_row_tmp (by rfl) _ _ ⟨w.heap.size, 0, none⟩ _ _ (by rfl) (by rfl) (run_loadVar_row _ w.heap.size 81 81 _ (0, 0) _ HX.out Tryz.underlying81 rfl size27b)
set_option maxHeartbeats 4000000 in
theorem rof_26 (w : World) : Calls Tryz.prog 32 #[.int .i64 26] w fun e w' => e = .returned (.tuple #[.agg (insL.getD 26 Sh.none).cells.toArray, .bool true]) ∧ Kept (fun _ => False) w w' := by
 have hX := heap_alloc2_old w (.cells (insL.getD 26 Sh.none).cells.toArray 81) (.cells (insL.getD 26 Sh.none).cells.toArray 81)
 have hK := ((Kept.refl (fun _ => False) w).alloc (.cells (insL.getD 26 Sh.none).cells.toArray 81)).alloc (.cells (insL.getD 26 Sh.none).cells.toArray 81)
 have HX := hid_of hX
 have HK := hid_of hK
 clear hX hK
 go_enter Tryz.func32, Tryz.ntmps32
 go_wp2_with fail
 refine (word_is _ 26 (insL.getD 26 Sh.none).nm _ (by decide +kernel) (by decide) (by kernel_rfl)).mono ?_
 rintro e w1 ⟨rfl, rfl⟩
 rw [show (insL.getD 26 Sh.none).nm = _ from rfl]
 go_wp2_with fail
 refine (operand_ref _ 26 (by decide)).mono ?_
 rintro e w2 ⟨rfl, rfl⟩
 rw [show ((kix 26 : Nat) : Int) = 0 from by kernel_rfl]
 go_wp2
 refine bodyPost_ret (v := .tuple #[.agg (insL.getD 26 Sh.none).cells.toArray, .bool true]) ?_ rfl ⟨rfl, HK.out⟩
 exact results_row_tmp (by rfl) _ _ ⟨w.heap.size, 0, none⟩ _ _ (by rfl) (by rfl) (run_loadVar_row _ w.heap.size 81 81 _ (0, 0) _ HX.out Tryz.underlying81 rfl size27b)
set_option maxHeartbeats 4000000 in
theorem rof_27 (w : World) : Calls Tryz.prog 32 #[.int .i64 27] w fun e w' => e = .returned (.tuple #[.agg (insL.getD 27 Sh.none).cells.toArray, .bool true]) ∧ Kept (fun _ => False) w w' := by
 have hX := heap_alloc2_old w (.cells (insL.getD 27 Sh.none).cells.toArray 81) (.cells (insL.getD 27 Sh.none).cells.toArray 81)
 have hK := ((Kept.refl (fun _ => False) w).alloc (.cells (insL.getD 27 Sh.none).cells.toArray 81)).alloc (.cells (insL.getD 27 Sh.none).cells.toArray 81)
 have HX := hid_of hX
 have HK := hid_of hK
 clear hX hK
 go_enter Tryz.func32, Tryz.ntmps32
 go_wp2_with fail
 refine (word_is _ 27 (insL.getD 27 Sh.none).nm _ (by decide +kernel) (by decide) (by kernel_rfl)).mono ?_
 rintro e w1 ⟨rfl, rfl⟩
 rw [show (insL.getD 27 Sh.none).nm = _ from rfl]
 go_wp2_with fail
 refine (operand_ref _ 27 (by decide)).mono ?_
 rintro e w2 ⟨rfl, rfl⟩
 rw [show ((kix 27 : Nat) : Int) = 0 from by kernel_rfl]
 go_wp2
 refine bodyPost_ret (v := .tuple #[.agg (insL.getD 27 Sh.none).cells.toArray, .bool true]) ?_ rfl ⟨rfl, HK.out⟩
 exact results_row_tmp (by rfl) _ _ ⟨w.heap.size, 0, none⟩ _ _ (by rfl) (by rfl) (run_loadVar_row _ w.heap.size 81 81 _ (0, 0) _ HX.out Tryz.underlying81 rfl size27b)
set_option maxHeartbeats 4000000 in
theorem rof_28 (w : World) : Calls Tryz.prog 32 #[.int .i64 28] w fun e w' => e = .returned (.tuple #[.agg (insL.getD 28 Sh.none).cells.toArray, .bool true]) ∧ Kept (fun _ => False) w w' := by
 have hX := heap_alloc2_old w (.cells (insL.getD 28 Sh.none).cells.toArray 81) (.cells (insL.getD 28 Sh.none).cells.toArray 81)
 have hK := ((Kept.refl (fun _ => False) w).alloc (.cells (insL.getD 28 Sh.none).cells.toArray 81)).alloc (.cells (insL.getD 28 Sh.none).cells.toArray 81)
 have HX := hid_of hX
 have HK := hid_of hK
 clear hX hK
 go_enter Tryz.func32, Tryz.ntmps32
 go_wp2_with fail
 refine (word_is _ 28 (insL.getD 28 Sh.none).nm _ (by decide +kernel) (by decide) (by kernel_rfl)).mono ?_
 rintro e w1 ⟨rfl, rfl⟩
 rw [show (insL.getD 28 Sh.none).nm = _ from rfl]
 go_wp2_with fail
 refine (operand_ref _ 28 (by decide)).mono ?_
 rintro e w2 ⟨rfl, rfl⟩
 rw [show ((kix 28 : Nat) : Int) = 0 from by kernel_rfl]
 go_wp2
 refine bodyPost_ret (v := .tuple #[.agg (insL.getD 28 Sh.none).cells.toArray, .bool true]) ?_ rfl ⟨rfl, HK.out⟩
 exact results_row_tmp (by rfl) _ _ ⟨w.heap.size, 0, none⟩ _ _ (by rfl) (by rfl) (run_loadVar_row _ w.heap.size 81 81 _ (0, 0) _ HX.out Tryz.underlying81 rfl size27b)
set_option maxHeartbeats 4000000 in
theorem rof_29 (w : World) : Calls Tryz.prog 32 #[.int .i64 29] w fun e w' => e = .returned (.tuple #[.agg (insL.getD 29 Sh.none).cells.toArray, .bool true]) ∧ Kept (fun _ => False) w w' := by
 have hX := heap_alloc2_old w (.cells (insL.getD 29 Sh.none).cells.toArray 81) (.cells (insL.getD 29 Sh.none).cells.toArray 81)
 have hK := ((Kept.refl (fun _ => False) w).alloc (.cells (insL.getD 29 Sh.none).cells.toArray 81)).alloc (.cells (insL.getD 29 Sh.none).cells.toArray 81)
 have HX := hid_of hX
 have HK := hid_of hK
 clear hX hK
 go_enter Tryz.func32, Tryz.ntmps32
 go_wp2_with fail
 refine (word_is _ 29 (insL.getD 29 Sh.none).nm _ (by decide +kernel) (by decide) (by kernel_rfl)).mono ?_
 rintro e w1 ⟨rfl, rfl⟩
 rw [show (insL.getD 29 Sh.none).nm = _ from rfl]
 go_wp2_with fail
 refine (operand_ref _ 29 (by decide)).mono ?_
 rintro e w2 ⟨rfl, rfl⟩
 rw [show ((kix 29 : Nat) : Int) = 0 from by kernel_rfl]
 go_wp2
 refine bodyPost_ret (v := .tuple #[.agg (insL.getD 29 Sh.none).cells.toArray, .bool true]) ?_ rfl ⟨rfl, HK.out⟩
 exact results_row_tmp (by rfl) _ _ ⟨w.heap.size, 0, none⟩ _ _ (by rfl) (by rfl) (run_loadVar_row _ w.heap.size 81 81 _ (0, 0) _ HX.out Tryz.underlying81 rfl size27b)
set_option maxHeartbeats 4000000 in
theorem rof_30 (w : World) : Calls Tryz.prog 32 #[.int .i64 30] w fun e w' => e = .returned (.tuple #[.agg (insL.getD 30 Sh.none).cells.toArray, .bool true]) ∧ Kept (fun _ => False) w w' := by
 have hX := heap_alloc2_old w (.cells (insL.getD 30 Sh.none).cells.toArray 81) (.cells (insL.getD 30 Sh.none).cells.toArray 81)
 have hK := ((Kept.refl (fun _ => False) w).alloc (.cells (insL.getD 30 Sh.none).cells.toArray 81)).alloc (.cells (insL.getD 30 Sh.none).cells.toArray 81)
 have HX := hid_of hX
 have HK := hid_of hK
 clear hX hK
 go_enter Tryz.func32, Tryz.ntmps32
 go_wp2_with fail
 refine (word_is _ 30 (insL.getD 30 Sh.none).nm _ (by decide +kernel) (by decide) (by kernel_rfl)).mono ?_
 rintro e w1 ⟨rfl, rfl⟩
 rw [show (insL.getD 30 Sh.none).nm = _ from rfl]
 go_wp2_with fail
 refine (operand_ref _ 30 (by decide)).mono ?_
 rintro e w2 ⟨rfl, rfl⟩
 rw [show ((kix 30 : Nat) : Int) = 0 from by kernel_rfl]
 go_wp2
 refine bodyPost_ret (v := .tuple #[.agg (insL.getD 30 Sh.none).cells.toArray, .bool true]) ?_ rfl ⟨rfl, HK.out⟩
 exact results_row_tmp (by rfl) _ _ ⟨w.heap.size, 0, none⟩ _ _ (by rfl) (by rfl) (run_loadVar_row _ w.heap.size 81 81 _ (0, 0) _ HX.out Tryz.underlying81 rfl size27b)
set_option maxHeartbeats 4000000 in
theorem rof_31 (w : World) : Calls Tryz.prog 32 #[.int .i64 31] w fun e w' => e = .returned (.tuple #[.agg (insL.getD 31 Sh.none).cells.toArray, .bool true]) ∧ Kept (fun _ => False) w w' := by
 have hX := heap_alloc2_old w (.cells (insL.getD 31 Sh.none).cells.toArray 81) (.cells (insL.getD 31 Sh.none).cells.toArray 81)
 have hK := ((Kept.refl (fun _ => False) w).alloc (.cells (insL.getD 31 Sh.none).cells.toArray 81)).alloc (.cells (insL.getD 31 Sh.none).cells.toArray 81)
 have HX := hid_of hX
 have HK := hid_of hK
 clear hX hK
 go_enter Tryz.func32, Tryz.ntmps32
 go_wp2_with fail
 refine (word_is _ 31 (insL.getD 31 Sh.none).nm _ (by decide +kernel) (by decide) (by kernel_rfl)).mono ?_
 rintro e w1 ⟨rfl, rfl⟩
 rw [show (insL.getD 31 Sh.none).nm = _ from rfl]
 go_wp2_with fail
 refine (operand_ref _ 31 (by decide)).mono ?_
 rintro e w2 ⟨rfl, rfl⟩
 rw [show ((kix 31 : Nat) : Int) = 0 from by kernel_rfl]
 go_wp2
 refine bodyPost_ret (v := .tuple #[.agg (insL.getD 31 Sh.none).cells.toArray, .bool true]) ?_ rfl ⟨rfl, HK.out⟩
 exact results_row_tmp (by rfl) _ _ ⟨w.heap.size, 0, none⟩ _ _ (by rfl) (by rfl) (run_loadVar_row _ w.heap.size 81 81 _ (0, 0) _ HX.out Tryz.underlying81 rfl size27b)
set_option maxHeartbeats 4000000 in
theorem rof_32 (w : World) : Calls Tryz.prog 32 #[.int .i64 32] w fun e w' => e = .returned (.tuple #[.agg (insL.getD 32 Sh.none).cells.toArray, .bool true]) ∧ Kept (fun _ => False) w w' := by
 have hX := heap_alloc2_old w (.cells (insL.getD 32 Sh.none).cells.toArray 81) (.cells (insL.getD 32 Sh.none).cells.toArray 81)
 have hK := ((Kept.refl (fun _ => False) w).alloc (.cells (insL.getD 32 Sh.none).cells.toArray 81)).alloc (.cells (insL.getD 32 Sh.none).cells.toArray 81)
 have HX := hid_of hX
 have HK := hid_of hK
 clear hX hK
 go_enter Tryz.func32, Tryz.ntmps32
 go_wp2_with fail
 refine (word_is _ 32 (insL.getD 32 Sh.none).nm _ (by decide +kernel) (by decide) (by kernel_rfl)).mono ?_
 rintro e w1 ⟨rfl, rfl⟩
 rw [show (insL.getD 32 Sh.none).nm = _ from rfl]
 go_wp2_with fail
 refine (operand_ref _ 32 (by decide)).mono ?_
 rintro e w2 ⟨rfl, rfl⟩
 rw [show ((kix 32 : Nat) : Int) = 0 from by kernel_rfl]
 go_wp2
 refine bodyPost_ret (v := .tuple #[.agg (insL.getD 32 Sh.none).cells.toArray, .bool true]) ?_ rfl ⟨rfl, HK.out⟩
 exact results_row_tmp (by rfl) _ _ ⟨w.heap.size, 0, none⟩ _ _ (by rfl) (by rfl) (run_loadVar_row _ w.heap.size 81 81 _ (0, 0) _ HX.out Tryz.underlying81 rfl size27b)
set_option maxHeartbeats 4000000 in
theorem rof_33 (w : World) : Calls Tryz.prog 32 #[.int .i64 33] w fun e w' => e = .returned (.tuple #[.agg (insL.getD 33 Sh.none).cells.toArray, .bool true]) ∧ Kept (fun _ => False) w w' := by
 have hX := heap_alloc2_old w (.cells (insL.getD 33 Sh.none).cells.toArray 81) (.cells (insL.getD 33 Sh.none).cells.toArray 81)
 have hK := ((Kept.refl (fun _ => False) w).alloc (.cells (insL.getD 33 Sh.none).cells.toArray 81)).alloc (.cells (insL.getD 33 Sh.none).cells.toArray 81)
 have HX := hid_of hX
 have HK := hid_of hK
 clear hX hK
 go_enter Tryz.func32, Tryz.ntmps32
 go_wp2_with fail
 refine (word_is _ 33 (insL.getD 33 Sh.none).nm _ (by decide +kernel) (by decide) (by kernel_rfl)).mono ?_
 rintro e w1 ⟨rfl, rfl⟩
 rw [show (insL.getD 33 Sh.none).nm = _ from rfl]
 go_wp2_with fail
 refine (operand_ref _ 33 (by decide)).mono ?_
 rintro e w2 ⟨rfl, rfl⟩
 rw [show ((kix 33 : Nat) : Int) = 0 from by kernel_rfl]
 go_wp2
 refine bodyPost_ret (v := .tuple #[.agg (insL.getD 33 Sh.none).cells.toArray, .bool true]) ?_ rfl ⟨rfl, HK.out⟩
 exact results_row_tmp (by rfl) _ _ ⟨w.heap.size, 0, none⟩ _ _ (by rfl) (by rfl) (run_loadVar_row _ w.heap.size 81 81 _ (0, 0) _ HX.out Tryz.underlying81 rfl size27b)
set_option maxHeartbeats 4000000 in
theorem rof_34 (w : World) : Calls Tryz.prog 32 #[.int .i64 34] w fun e w' => e = .returned (.tuple #[.agg (insL.getD 34 Sh.none).cells.toArray, .bool true]) ∧ Kept (fun _ => False) w w' := by
 have hX := heap_alloc2_old w (.cells (insL.getD 34 Sh.none).cells.toArray 81) (.cells (insL.getD 34 Sh.none).cells.toArray 81)
 have hK := ((Kept.refl (fun _ => False) w).alloc (.cells (insL.getD 34 Sh.none).cells.toArray 81)).alloc (.cells (insL.getD 34 Sh.none).cells.toArray 81)
 have HX := hid_of hX
 have HK := hid_of hK
 clear hX hK
 go_enter Tryz.func32, Tryz.ntmps32
 go_wp2_with fail
 refine (word_is _ 34 (insL.getD 34 Sh.none).nm _ (by decide +kernel) (by decide) (by kernel_rfl)).mono ?_
 rintro e w1 ⟨rfl, rfl⟩
 rw [show (insL.getD 34 Sh.none).nm = _ from rfl]
 go_wp2_with fail
 refine (operand_ref _ 34 (by decide)).mono ?_
 rintro e w2 ⟨rfl, rfl⟩
 rw [show ((kix 34 : Nat) : Int) = 0 from by kernel_rfl]
 go_wp2
 refine bodyPost_ret (v := .tuple #[.agg (insL.getD 34 Sh.none).cells.toArray, .bool true]) ?_ rfl ⟨rfl, HK.out⟩
 exact results_row_tmp (by rfl) _ _ ⟨w.heap.size, 0, none⟩ _ _ (by rfl) (by rfl) (run_loadVar_row _ w.heap.size 81 81 _ (0, 0) _ HX.out Tryz.underlying81 rfl size27b)
set_option maxHeartbeats 4000000 in
theorem rof_35 (w : World) : Calls Tryz.prog 32 #[.int .i64 35] w fun e w' => e = .returned (.tuple #[.agg (insL.getD 35 Sh.none).cells.toArray, .bool true]) ∧ Kept (fun _ => False) w w' := by
 have hX := heap_alloc2_old w (.cells (insL.getD 35 Sh.none).cells.toArray 81) (.cells (insL.getD 35 Sh.none).cells.toArray 81)
 have hK := ((Kept.refl (fun _ => False) w).alloc (.cells (insL.getD 35 Sh.none).cells.toArray 81)).alloc (.cells (insL.getD 35 Sh.none).cells.toArray 81)
 have HX := hid_of hX
 have HK := hid_of hK
 clear hX hK
 go_enter Tryz.func32, Tryz.ntmps32
 go_wp2_with fail
 refine (word_is _ 35 (insL.getD 35 Sh.none).nm _ (by decide +kernel) (by decide) (by kernel_rfl)).mono ?_
 rintro e w1 ⟨rfl, rfl⟩
 rw [show (insL.getD 35 Sh.none).nm = _ from rfl]
 go_wp2_with fail
 refine (operand_ref _ 35 (by decide)).mono ?_
 rintro e w2 ⟨rfl, rfl⟩
 rw [show ((kix 35 : Nat) : Int) = 0 from by kernel_rfl]
 go_wp2
 refine bodyPost_ret (v := .tuple #[.agg (insL.getD 35 Sh.none).cells.toArray, .bool true]) ?_ rfl ⟨rfl, HK.out⟩
 exact results_row_tmp (by rfl) _ _ ⟨w.heap.size, 0, none⟩ _ _ (by rfl) (by rfl) (run_loadVar_row _ w.heap.size 81 81 _ (0, 0) _ HX.out Tryz.underlying81 rfl size27b)
set_option maxHeartbeats 4000000 in
theorem rof_36 (w : World) : Calls Tryz.prog 32 #[.int .i64 36] w fun e w' => e = .returned (.tuple #[.agg (insL.getD 36 Sh.none).cells.toArray, .bool true]) ∧ Kept (fun _ => False) w w' := by
 have hX := heap_alloc2_old w (.cells (insL.getD 36 Sh.none).cells.toArray 81) (.cells (insL.getD 36 Sh.none).cells.toArray 81)
 have hK := ((Kept.refl (fun _ => False) w).alloc (.cells (insL.getD 36 Sh.none).cells.toArray 81)).alloc (.cells (insL.getD 36 Sh.none).cells.toArray 81)
 have HX := hid_of hX
 have HK := hid_of hK
 clear hX hK
 go_enter Tryz.func32, Tryz.ntmps32
 go_wp2_with fail
 refine (word_is _ 36 (insL.getD 36 Sh.none).nm _ (by decide +kernel) (by decide) (by kernel_rfl)).mono ?_
 rintro e w1 ⟨rfl, rfl⟩
 rw [show (insL.getD 36 Sh.none).nm = _ from rfl]
 go_wp2_with fail
 refine (operand_ref _ 36 (by decide)).mono ?_
 rintro e w2 ⟨rfl, rfl⟩
 rw [show ((kix 36 : Nat) : Int) = 0 from by kernel_rfl]
 go_wp2
 refine bodyPost_ret (v := .tuple #[.agg (insL.getD 36 Sh.none).cells.toArray, .bool true]) ?_ rfl ⟨rfl, HK.out⟩
 exact results_row_tmp (by rfl) _ _ ⟨w.heap.size, 0, none⟩ _ _ (by rfl) (by rfl) (run_loadVar_row _ w.heap.size 81 81 _ (0, 0) _ HX.out Tryz.underlying81 rfl size27b)
set_option maxHeartbeats 4000000 in
theorem rof_37 (w : World) : Calls Tryz.prog 32 #[.int .i64 37] w fun e w' => e = .returned (.tuple #[.agg (insL.getD 37 Sh.none).cells.toArray, .bool true]) ∧ Kept (fun _ => False) w w' := by
 have hX := heap_alloc2_old w (.cells (insL.getD 37 Sh.none).cells.toArray 81) (.cells (insL.getD 37 Sh.none).cells.toArray 81)
 have hK := ((Kept.refl (fun _ => False) w).alloc (.cells (insL.getD 37 Sh.none).cells.toArray 81)).alloc (.cells (insL.getD 37 Sh.none).cells.toArray 81)
 have HX := hid_of hX
 have HK := hid_of hK
 clear hX hK
 go_enter Tryz.func32, Tryz.ntmps32
 go_wp2_with fail
 refine (word_is _ 37 (insL.getD 37 Sh.none).nm _ (by decide +kernel) (by decide) (by kernel_rfl)).mono ?_
 rintro e w1 ⟨rfl, rfl⟩
 rw [show (insL.getD 37 Sh.none).nm = _ from rfl]
 go_wp2_with fail
 refine (operand_ref _ 37 (by decide)).mono ?_
 rintro e w2 ⟨rfl, rfl⟩
 rw [show ((kix 37 : Nat) : Int) = 0 from by kernel_rfl]
 go_wp2
 refine bodyPost_ret (v := .tuple #[.agg (insL.getD 37 Sh.none).cells.toArray, .bool true]) ?_ rfl ⟨rfl, HK.out⟩
 exact results_row_tmp (by rfl) _ _ ⟨w.heap.size, 0, none⟩ _ _ (by rfl) (by rfl) (run_loadVar_row _ w.heap.size 81 81 _ (0, 0) _ HX.out Tryz.underlying81 rfl size27b)
set_option maxHeartbeats 4000000 in
theorem rof_38 (w : World) : Calls Tryz.prog 32 #[.int .i64 38] w fun e w' => e = .returned (.tuple #[.agg (insL.getD 38 Sh.none).cells.toArray, .bool true]) ∧ Kept (fun _ => False) w w' := by
 have hX := heap_alloc2_old w (.cells (insL.getD 38 Sh.none).cells.toArray 81) (.cells (insL.getD 38 Sh.none).cells.toArray 81)
 have hK := ((Kept.refl (fun _ => False) w).alloc (.cells (insL.getD 38 Sh.none).cells.toArray 81)).alloc (.cells (insL.getD 38 Sh.none).cells.toArray 81)
 have HX := hid_of hX
 have HK := hid_of hK
 clear hX hK
 go_enter Tryz.func32, Tryz.ntmps32
 go_wp2_with fail
 refine (word_is _ 38 (insL.getD 38 Sh.none).nm _ (by decide +kernel) (by decide) (by kernel_rfl)).mono ?_
 rintro e w1 ⟨rfl, rfl⟩
 rw [show (insL.getD 38 Sh.none).nm = _ from rfl]
 go_wp2_with fail
 refine (operand_ref _ 38 (by decide)).mono ?_
 rintro e w2 ⟨rfl, rfl⟩
 rw [show ((kix 38 : Nat) : Int) = 0 from by kernel_rfl]
 go_wp2
 refine bodyPost_ret (v := .tuple #[.agg (insL.getD 38 Sh.none).cells.toArray, .bool true]) ?_ rfl ⟨rfl, HK.out⟩
 exact results_row_tmp (by rfl) _ _ ⟨w.heap.size, 0, none⟩ _ _ (by rfl) (by rfl) (run_loadVar_row _ w.heap.size 81 81 _ (0, 0) _ HX.out Tryz.underlying81 rfl size27b)
set_option maxHeartbeats 4000000 in
theorem rof_39 (w : World) : Calls Tryz.prog 32 #[.int .i64 39] w fun e w' => e = .returned (.tuple #[.agg (insL.getD 39 Sh.none).cells.toArray, .bool true]) ∧ Kept (fun _ => False) w w' := by
 have hX := heap_alloc2_old w (.cells (insL.getD 39 Sh.none).cells.toArray 81) (.cells (insL.getD 39 Sh.none).cells.toArray 81)
 have hK := ((Kept.refl (fun _ => False) w).alloc (.cells (insL.getD 39 Sh.none).cells.toArray 81)).alloc (.cells (insL.getD 39 Sh.none).cells.toArray 81)
 have HX := hid_of hX
 have HK := hid_of hK
 clear hX hK
 go_enter Tryz.func32, Tryz.ntmps32
 go_wp2_with fail
 refine (word_is _ 39 (insL.getD 39 Sh.none).nm _ (by decide +kernel) (by decide) (by kernel_rfl)).mono ?_
 rintro e w1 ⟨rfl, rfl⟩
 rw [show (insL.getD 39 Sh.none).nm = _ from rfl]
 go_wp2_with fail
 refine (operand_ref _ 39 (by decide)).mono ?_
 rintro e w2 ⟨rfl, rfl⟩
 rw [show ((kix 39 : Nat) : Int) = 0 from by kernel_rfl]
 go_wp2
 refine bodyPost_ret (v := .tuple #[.agg (insL.getD 39 Sh.none).cells.toArray, .bool true]) ?_ rfl ⟨rfl, HK.out⟩
 exact results_row_tmp (by rfl) _ _ ⟨w.heap.size, 0, none⟩ _ _ (by rfl) (by rfl) (run_loadVar_row _ w.heap.size 81 81 _ (0, 0) _ HX.out Tryz.underlying81 rfl size27b)
set_option maxHeartbeats 4000000 in
theorem rof_40 (w : World) : Calls Tryz.prog 32 #[.int .i64 40] w fun e w' => e = .returned (.tuple #[.agg (insL.getD 40 Sh.none).cells.toArray, .bool true]) ∧ Kept (fun _ => False) w w' := by
 have hX := heap_alloc2_old w (.cells (insL.getD 40 Sh.none).cells.toArray 81) (.cells (insL.getD 40 Sh.none).cells.toArray 81)
 have hK := ((Kept.refl (fun _ => False) w).alloc (.cells (insL.getD 40 Sh.none).cells.toArray 81)).alloc (.cells (insL.getD 40 Sh.none).cells.toArray 81)
 have HX := hid_of hX
 have HK := hid_of hK
 clear hX hK
 go_enter Tryz.func32, Tryz.ntmps32
 go_wp2_with fail
 refine (word_is _ 40 (insL.getD 40 Sh.none).nm _ (by decide +kernel) (by decide) (by kernel_rfl)).mono ?_
 rintro e w1 ⟨rfl, rfl⟩
 rw [show (insL.getD 40 Sh.none).nm = _ from rfl]
 go_wp2_with fail
 refine (operand_ref _ 40 (by decide)).mono ?_
 rintro e w2 ⟨rfl, rfl⟩
 rw [show ((kix 40 : Nat) : Int) = 0 from by kernel_rfl]
 go_wp2
 refine bodyPost_ret (v := .tuple #[.agg (insL.getD 40 Sh.none).cells.toArray, .bool true]) ?_ rfl ⟨rfl, HK.out⟩
 exact results_row_tmp (by rfl) _ _ ⟨w.heap.size, 0, none⟩ _ _ (by rfl) (by rfl) (run_loadVar_row _ w.heap.size 81 81 _ (0, 0) _ HX.out Tryz.underlying81 rfl size27b)
set_option maxHeartbeats 4000000 in
theorem rof_41 (w : World) : Calls Tryz.prog 32 #[.int .i64 41] w fun e w' => e = .returned (.tuple #[.agg (insL.getD 41 Sh.none).cells.toArray, .bool true]) ∧ Kept (fun _ => False) w w' := by
 have hX := heap_alloc2_old w (.cells (insL.getD 41 Sh.none).cells.toArray 81) (.cells (insL.getD 41 Sh.none).cells.toArray 81)
 have hK := ((Kept.refl (fun _ => False) w).alloc (.cells (insL.getD 41 Sh.none).cells.toArray 81)).alloc (.cells (insL.getD 41 Sh.none).cells.toArray 81)
 have HX := hid_of hX
 have HK := hid_of hK
 clear hX hK
 go_enter Tryz.func32, Tryz.ntmps32
 go_wp2_with fail
 refine (word_is _ 41 (insL.getD 41 Sh.none).nm _ (by decide +kernel) (by decide) (by kernel_rfl)).mono ?_
 rintro e w1 ⟨rfl, rfl⟩
 rw [show (insL.getD 41 Sh.none).nm = _ from rfl]
 go_wp2_with fail
 refine (operand_ref _ 41 (by decide)).mono ?_
 rintro e w2 ⟨rfl, rfl⟩
 rw [show ((kix 41 : Nat) : Int) = 0 from by kernel_rfl]
 go_wp2
 refine bodyPost_ret (v := .tuple #[.agg (insL.getD 41 Sh.none).cells.toArray, .bool true]) ?_ rfl ⟨rfl, HK.out⟩
 exact results_row_tmp (by rfl) _ _ ⟨w.heap.size, 0, none⟩ _ _ (by rfl) (by rfl) (run_loadVar_row _ w.heap.size 81 81 _ (0, 0) _ HX.out Tryz.underlying81 rfl size27b)
set_option maxHeartbeats 4000000 in
theorem rof_42 (w : World) : Calls Tryz.prog 32 #[.int .i64 42] w fun e w' => e = .returned (.tuple #[.agg (insL.getD 42 Sh.none).cells.toArray, .bool true]) ∧ Kept (fun _ => False) w w' := by
 have hX := heap_alloc2_old w (.cells (insL.getD 42 Sh.none).cells.toArray 81) (.cells (insL.getD 42 Sh.none).cells.toArray 81)
 have hK := ((Kept.refl (fun _ => False) w).alloc (.cells (insL.getD 42 Sh.none).cells.toArray 81)).alloc (.cells (insL.getD 42 Sh.none).cells.toArray 81)
 have HX := hid_of hX
 have HK := hid_of hK
 clear hX hK
 go_enter Tryz.func32, Tryz.ntmps32
 go_wp2_with fail
 refine (word_is _ 42 (insL.getD 42 Sh.none).nm _ (by decide +kernel) (by decide) (by kernel_rfl)).mono ?_
 rintro e w1 ⟨rfl, rfl⟩
 rw [show (insL.getD 42 Sh.none).nm = _ from rfl]
 go_wp2_with fail
 refine (operand_ref _ 42 (by decide)).mono ?_
 rintro e w2 ⟨rfl, rfl⟩
 rw [show ((kix 42 : Nat) : Int) = 0 from by kernel_rfl]
 go_wp2
 refine bodyPost_ret (v := .tuple #[.agg (insL.getD 42 Sh.none).cells.toArray, .bool true]) ?_ rfl ⟨rfl, HK.out⟩
 exact results_row_tmp (by rfl) _ _ ⟨w.heap.size, 0, none⟩ _ _ (by rfl) (by rfl) (run_loadVar_row _ w.heap.size 81 81 _ (0, 0) _ HX.out Tryz.underlying81 rfl size27b)
set_option maxHeartbeats 4000000 in
theorem rof_43 (w : World) : Calls Tryz.prog 32 #[.int .i64 43] w fun e w' => e = .returned (.tuple #[.agg (insL.getD 43 Sh.none).cells.toArray, .bool true]) ∧ Kept (fun _ => False) w w' := by
 have hX := heap_alloc2_old w (.cells (insL.getD 43 Sh.none).cells.toArray 81) (.cells (insL.getD 43 Sh.none).cells.toArray 81)
 have hK := ((Kept.refl (fun _ => False) w).alloc (.cells (insL.getD 43 Sh.none).cells.toArray 81)).alloc (.cells (insL.getD 43 Sh.none).cells.toArray 81)
 have HX := hid_of hX
 have HK := hid_of hK
 clear hX hK
 go_enter Tryz.func32, Tryz.ntmps32
 go_wp2_with fail
 refine (word_is _ 43 (insL.getD 43 Sh.none).nm _ (by decide +kernel) (by decide) (by kernel_rfl)).mono ?_
 rintro e w1 ⟨rfl, rfl⟩
 rw [show (insL.getD 43 Sh.none).nm = _ from rfl]
 go_wp2_with fail
 refine (operand_ref _ 43 (by decide)).mono ?_
 rintro e w2 ⟨rfl, rfl⟩
 rw [show ((kix 43 : Nat) : Int) = 0 from by kernel_rfl]
 go_wp2
 refine bodyPost_ret (v := .tuple #[.agg (insL.getD 43 Sh.none).cells.toArray, .bool true]) ?_ rfl ⟨rfl, HK.out⟩
 exact results_row_tmp (by rfl) _ _ ⟨w.heap.size, 0, none⟩ _ _ (by rfl) (by rfl) (run_loadVar_row _ w.heap.size 81 81 _ (0, 0) _ HX.out Tryz.underlying81 rfl size27b)
set_option maxHeartbeats 4000000 in
theorem rof_44 (w : World) : Calls Tryz.prog 32 #[.int .i64 44] w fun e w' => e = .returned (.tuple #[.agg (insL.getD 44 Sh.none).cells.toArray, .bool true]) ∧ Kept (fun _ => False) w w' := by
 have hX := heap_alloc2_old w (.cells (insL.getD 44 Sh.none).cells.toArray 81) (.cells (insL.getD 44 Sh.none).cells.toArray 81)
 have hK := ((Kept.refl (fun _ => False) w).alloc (.cells (insL.getD 44 Sh.none).cells.toArray 81)).alloc (.cells (insL.getD 44 Sh.none).cells.toArray 81)
 have HX := hid_of hX
 have HK := hid_of hK
 clear hX hK
 go_enter Tryz.func32, Tryz.ntmps32
 go_wp2_with fail
 refine (word_is _ 44 (insL.getD 44 Sh.none).nm _ (by decide +kernel) (by decide) (by kernel_rfl)).mono ?_
 rintro e w1 ⟨rfl, rfl⟩
 rw [show (insL.getD 44 Sh.none).nm = _ from rfl]
 go_wp2_with fail
 refine (operand_ref _ 44 (by decide)).mono ?_
 rintro e w2 ⟨rfl, rfl⟩
 rw [show ((kix 44 : Nat) : Int) = 0 from by kernel_rfl]
 go_wp2
 refine bodyPost_ret (v := .tuple #[.agg (insL.getD 44 Sh.none).cells.toArray, .bool true]) ?_ rfl ⟨rfl, HK.out⟩
 exact results_row_tmp (by rfl) _ _ ⟨w.heap.size, 0, none⟩ _ _ (by rfl) (by rfl) (run_loadVar_row _ w.heap.size 81 81 _ (0, 0) _ HX.out Tryz.underlying81 rfl size27b)
set_option maxHeartbeats 4000000 in
theorem rof_45 (w : World) : Calls Tryz.prog 32 #[.int .i64 45] w fun e w' => e = .returned (.tuple #[.agg (insL.getD 45 Sh.none).cells.toArray, .bool true]) ∧ Kept (fun _ => False) w w' := by
 have hX := heap_alloc2_old w (.cells (insL.getD 45 Sh.none).cells.toArray 81) (.cells (insL.getD 45 Sh.none).cells.toArray 81)
 have hK := ((Kept.refl (fun _ => False) w).alloc (.cells (insL.getD 45 Sh.none).cells.toArray 81)).alloc (.cells (insL.getD 45 Sh.none).cells.toArray 81)
 have HX := hid_of hX
 have HK := hid_of hK
 clear hX hK
 go_enter Tryz.func32, Tryz.ntmps32
 go_wp2_with fail
 refine (word_is _ 45 (insL.getD 45 Sh.none).nm _ (by decide +kernel) (by decide) (by kernel_rfl)).mono ?_
 rintro e w1 ⟨rfl, rfl⟩
 rw [show (insL.getD 45 Sh.none).nm = _ from rfl]
 go_wp2_with fail
 refine (operand_ref _ 45 (by decide)).mono ?_
 rintro e w2 ⟨rfl, rfl⟩
 rw [show ((kix 45 : Nat) : Int) = 0 from by kernel_rfl]
 go_wp2
 refine bodyPost_ret (v := .tuple #[.agg (insL.getD 45 Sh.none).cells.toArray, .bool true]) ?_ rfl ⟨rfl, HK.out⟩
 exact results_row_tmp (by rfl) _ _ ⟨w.heap.size, 0, none⟩ _ _ (by rfl) (by rfl) (run_loadVar_row _ w.heap.size 81 81 _ (0, 0) _ HX.out Tryz.underlying81 rfl size27b)
end Go.Proofs.YtpfmhibdmehlcaaGreatDoor

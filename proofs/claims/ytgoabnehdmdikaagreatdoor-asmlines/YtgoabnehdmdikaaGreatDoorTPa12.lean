import Derived.Test.YtgoabnehdmdikaaGreatDoorTPa11
namespace Go.Proofs.YtgoabnehdmdikaaGreatDoor
open Go.RowKit
set_option linter.unusedVariables false
set_option linter.unusedSimpArgs false
set_option maxRecDepth 100000
theorem size27 : (Tryz.prog.info? 89).map (·.size) = some 4 := by kernel_rfl
set_option maxHeartbeats 4000000 in
theorem rof_0 (w : World) : Calls Tryz.prog 33 #[.int .i64 0] w fun e w' => e = .returned (.tuple #[.agg (insL.getD 0 Sh.none).cells.toArray, .bool true]) ∧ Kept (fun _ => False) w w' := by
 have hX := heap_alloc2_old w (.cells (insL.getD 0 Sh.none).cells.toArray 89) (.cells (insL.getD 0 Sh.none).cells.toArray 89)
 have hK := ((Kept.refl (fun _ => False) w).alloc (.cells (insL.getD 0 Sh.none).cells.toArray 89)).alloc (.cells (insL.getD 0 Sh.none).cells.toArray 89)
 have HX := hid_of hX
 have HK := hid_of hK
 clear hX hK
 go_enter Tryz.func33, Tryz.ntmps33
 go_wp2_with fail
 refine (word_is _ 0 (insL.getD 0 Sh.none).nm _ (by decide +kernel) (by decide) (by kernel_rfl)).mono ?_
 rintro e w1 ⟨rfl, rfl⟩
 rw [show (insL.getD 0 Sh.none).nm = _ from rfl]
 go_wp2_with fail
 refine (operand_ref _ 0 (by decide)).mono ?_
 rintro e w2 ⟨rfl, rfl⟩
 rw [show ((kix 0 : Nat) : Int) = 0 from by kernel_rfl]
 go_wp2
 refine bodyPost_ret (v := .tuple #[.agg (insL.getD 0 Sh.none).cells.toArray, .bool true]) ?_ rfl ⟨rfl, HK.out⟩
 exact results_row_tmp (by rfl) _ _ ⟨w.heap.size, 0, none⟩ _ _ (by rfl) (by rfl) (run_loadVar_row _ w.heap.size 89 89 _ (0, 0) _ HX.out Tryz.underlying89 rfl size27)
set_option maxHeartbeats 4000000 in
theorem rof_1 (w : World) : Calls Tryz.prog 33 #[.int .i64 1] w fun e w' => e = .returned (.tuple #[.agg (insL.getD 1 Sh.none).cells.toArray, .bool true]) ∧ Kept (fun _ => False) w w' := by
 have hX := heap_alloc2_old w (.cells (insL.getD 1 Sh.none).cells.toArray 89) (.cells (insL.getD 1 Sh.none).cells.toArray 89)
 have hK := ((Kept.refl (fun _ => False) w).alloc (.cells (insL.getD 1 Sh.none).cells.toArray 89)).alloc (.cells (insL.getD 1 Sh.none).cells.toArray 89)
 have HX := hid_of hX
 have HK := hid_of hK
 clear hX hK
 go_enter Tryz.func33, Tryz.ntmps33
 go_wp2_with fail
 refine (word_is _ 1 (insL.getD 1 Sh.none).nm _ (by decide +kernel) (by decide) (by kernel_rfl)).mono ?_
 rintro e w1 ⟨rfl, rfl⟩
 rw [show (insL.getD 1 Sh.none).nm = _ from rfl]
 go_wp2_with fail
 refine (operand_ref _ 1 (by decide)).mono ?_
 rintro e w2 ⟨rfl, rfl⟩
 rw [show ((kix 1 : Nat) : Int) = 0 from by kernel_rfl]
 go_wp2
 refine bodyPost_ret (v := .tuple #[.agg (insL.getD 1 Sh.none).cells.toArray, .bool true]) ?_ rfl ⟨rfl, HK.out⟩
 exact results_row_tmp (by rfl) _ _ ⟨w.heap.size, 0, none⟩ _ _ (by rfl) (by rfl) (run_loadVar_row _ w.heap.size 89 89 _ (0, 0) _ HX.out Tryz.underlying89 rfl size27)
set_option maxHeartbeats 4000000 in
theorem rof_2 (w : World) : Calls Tryz.prog 33 #[.int .i64 2] w fun e w' => e = .returned (.tuple #[.agg (insL.getD 2 Sh.none).cells.toArray, .bool true]) ∧ Kept (fun _ => False) w w' := by
 have hX := heap_alloc2_old w (.cells (insL.getD 2 Sh.none).cells.toArray 89) (.cells (insL.getD 2 Sh.none).cells.toArray 89)
 have hK := ((Kept.refl (fun _ => False) w).alloc (.cells (insL.getD 2 Sh.none).cells.toArray 89)).alloc (.cells (insL.getD 2 Sh.none).cells.toArray 89)
 have HX := hid_of hX
 have HK := hid_of hK
 clear hX hK
 go_enter Tryz.func33, Tryz.ntmps33
 go_wp2_with fail
 refine (word_is _ 2 (insL.getD 2 Sh.none).nm _ (by decide +kernel) (by decide) (by kernel_rfl)).mono ?_
 rintro e w1 ⟨rfl, rfl⟩
 rw [show (insL.getD 2 Sh.none).nm = _ from rfl]
 go_wp2_with fail
 refine (operand_ref _ 2 (by decide)).mono ?_
 rintro e w2 ⟨rfl, rfl⟩
 rw [show ((kix 2 : Nat) : Int) = 0 from by kernel_rfl]
 go_wp2
 refine bodyPost_ret (v := .tuple #[.agg (insL.getD 2 Sh.none).cells.toArray, .bool true]) ?_ rfl ⟨rfl, HK.out⟩
 exact results_row_tmp (by rfl) _ _ ⟨w.heap.size, 0, none⟩ _ _ (by rfl) (by rfl) (run_loadVar_row _ w.heap.size 89 89 _ (0, 0) _ HX.out Tryz.underlying89 rfl size27)
set_option maxHeartbeats 4000000 in
theorem rof_3 (w : World) : Calls Tryz.prog 33 #[.int .i64 3] w fun e w' => e = .returned (.tuple #[.agg (insL.getD 3 Sh.none).cells.toArray, .bool true]) ∧ Kept (fun _ => False) w w' := by
 have hX := heap_alloc2_old w (.cells (insL.getD 3 Sh.none).cells.toArray 89) (.cells (insL.getD 3 Sh.none).cells.toArray 89)
 have hK := ((Kept.refl (fun _ => False) w).alloc (.cells (insL.getD 3 Sh.none).cells.toArray 89)).alloc (.cells (insL.getD 3 Sh.none).cells.toArray 89)
 have HX := hid_of hX
 have HK := hid_of hK
 clear hX hK
 go_enter Tryz.func33, Tryz.ntmps33
 go_wp2_with fail
 refine (word_is _ 3 (insL.getD 3 Sh.none).nm _ (by decide +kernel) (by decide) (by kernel_rfl)).mono ?_
 rintro e w1 ⟨rfl, rfl⟩
 rw [show (insL.getD 3 Sh.none).nm = _ from rfl]
 go_wp2_with fail
 refine (operand_ref _ 3 (by decide)).mono ?_
 rintro e w2 ⟨rfl, rfl⟩
 rw [show ((kix 3 : Nat) : Int) = 1 from by kernel_rfl]
 go_wp2
 refine bodyPost_ret (v := .tuple #[.agg (insL.getD 3 Sh.none).cells.toArray, .bool true]) ?_ rfl ⟨rfl, HK.out⟩
 exact results_row_tmp (by rfl) _ _ ⟨w.heap.size, 0, none⟩ _ _ (by rfl) (by rfl) (run_loadVar_row _ w.heap.size 89 89 _ (0, 0) _ HX.out Tryz.underlying89 rfl size27)
set_option maxHeartbeats 4000000 in
theorem rof_4 (w : World) : Calls Tryz.prog 33 #[.int .i64 4] w fun e w' => e = .returned (.tuple #[.agg (insL.getD 4 Sh.none).cells.toArray, .bool true]) ∧ Kept (fun _ => False) w w' := by
 have hX := heap_alloc2_old w (.cells (insL.getD 4 Sh.none).cells.toArray 89) (.cells (insL.getD 4 Sh.none).cells.toArray 89)
 have hK := ((Kept.refl (fun _ => False) w).alloc (.cells (insL.getD 4 Sh.none).cells.toArray 89)).alloc (.cells (insL.getD 4 Sh.none).cells.toArray 89)
 have HX := hid_of hX
 have HK := hid_of hK
 clear hX hK
 go_enter Tryz.func33, Tryz.ntmps33
 go_wp2_with fail
 refine (word_is _ 4 (insL.getD 4 Sh.none).nm _ (by decide +kernel) (by decide) (by kernel_rfl)).mono ?_
 rintro e w1 ⟨rfl, rfl⟩
 rw [show (insL.getD 4 Sh.none).nm = _ from rfl]
 go_wp2_with fail
 refine (operand_ref _ 4 (by decide)).mono ?_
 rintro e w2 ⟨rfl, rfl⟩
 rw [show ((kix 4 : Nat) : Int) = 0 from by kernel_rfl]
 go_wp2
 refine bodyPost_ret (v := .tuple #[.agg (insL.getD 4 Sh.none).cells.toArray, .bool true]) ?_ rfl ⟨rfl, HK.out⟩
 exact results_row_tmp (by rfl) _ _ ⟨w.heap.size, 0, none⟩ _ _ (by rfl) (by rfl) (run_loadVar_row _ w.heap.size 89 89 _ (0, 0) _ HX.out Tryz.underlying89 rfl size27)
set_option maxHeartbeats 4000000 in
theorem rof_5 (w : World) : Calls Tryz.prog 33 #[.int .i64 5] w fun e w' => e = .returned (.tuple #[.agg (insL.getD 5 Sh.none).cells.toArray, .bool true]) ∧ Kept (fun _ => False) w w' := by
 have hX := heap_alloc2_old w (.cells (insL.getD 5 Sh.none).cells.toArray 89) (.cells (insL.getD 5 Sh.none).cells.toArray 89)
 have hK := ((Kept.refl (fun _ => False) w).alloc (.cells (insL.getD 5 Sh.none).cells.toArray 89)).alloc (.cells (insL.getD 5 Sh.none).cells.toArray 89)
 have HX := hid_of hX
 have HK := hid_of hK
 clear hX hK
 go_enter Tryz.func33, Tryz.ntmps33
 go_wp2_with fail
 refine (word_is _ 5 (insL.getD 5 Sh.none).nm _ (by decide +kernel) (by decide) (by kernel_rfl)).mono ?_
 rintro e w1 ⟨rfl, rfl⟩
 rw [show (insL.getD 5 Sh.none).nm = _ from rfl]
 go_wp2_with fail
 refine (operand_ref _ 5 (by decide)).mono ?_
 rintro e w2 ⟨rfl, rfl⟩
 rw [show ((kix 5 : Nat) : Int) = 6 from by kernel_rfl]
 go_wp2
 refine bodyPost_ret (v := .tuple #[.agg (insL.getD 5 Sh.none).cells.toArray, .bool true]) ?_ rfl ⟨rfl, HK.out⟩
 exact results_row_tmp (by rfl) _ _ ⟨w.heap.size, 0, none⟩ _ _ (by rfl) (by rfl) (run_loadVar_row _ w.heap.size 89 89 _ (0, 0) _ HX.out Tryz.underlying89 rfl size27)
set_option maxHeartbeats 4000000 in
theorem rof_6 (w : World) : Calls Tryz.prog 33 #[.int .i64 6] w fun e w' => e = .returned (.tuple #[.agg (insL.getD 6 Sh.none).cells.toArray, .bool true]) ∧ Kept (fun _ => False) w w' := by
 have hX := heap_alloc2_old w (.cells (insL.getD 6 Sh.none).cells.toArray 89) (.cells (insL.getD 6 Sh.none).cells.toArray 89)
 have hK := ((Kept.refl (fun _ => False) w).alloc (.cells (insL.getD 6 Sh.none).cells.toArray 89)).alloc (.cells (insL.getD 6 Sh.none).cells.toArray 89)
 have HX := hid_of hX
 have HK := hid_of hK
 clear hX hK
 go_enter Tryz.func33, Tryz.ntmps33
 go_wp2_with fail
 refine (word_is _ 6 (insL.getD 6 Sh.none).nm _ (by decide +kernel) (by decide) (by kernel_rfl)).mono ?_
 rintro e w1 ⟨rfl, rfl⟩
 rw [show (insL.getD 6 Sh.none).nm = _ from rfl]
 go_wp2_with fail
 refine (operand_ref _ 6 (by decide)).mono ?_
 rintro e w2 ⟨rfl, rfl⟩
 rw [show ((kix 6 : Nat) : Int) = 0 from by kernel_rfl]
 go_wp2
 refine bodyPost_ret (v := .tuple #[.agg (insL.getD 6 Sh.none).cells.toArray, .bool true]) ?_ rfl ⟨rfl, HK.out⟩
 exact results_row_tmp (by rfl) _ _ ⟨w.heap.size, 0, none⟩ _ _ (by rfl) (by rfl) (run_loadVar_row _ w.heap.size 89 89 _ (0, 0) _ HX.out Tryz.underlying89 rfl size27)
set_option maxHeartbeats 4000000 in
theorem rof_7 (w : World) : Calls Tryz.prog 33 #[.int .i64 7] w fun e w' => e = .returned (.tuple #[.agg (insL.getD 7 Sh.none).cells.toArray, .bool true]) ∧ Kept (fun _ => False) w w' := by
 have hX := heap_alloc2_old w (.cells (insL.getD 7 Sh.none).cells.toArray 89) (.cells (insL.getD 7 Sh.none).cells.toArray 89)
 have hK := ((Kept.refl (fun _ => False) w).alloc (.cells (insL.getD 7 Sh.none).cells.toArray 89)).alloc (.cells (insL.getD 7 Sh.none).cells.toArray 89)
 have HX := hid_of hX
 have HK := hid_of hK
 clear hX hK
 go_enter Tryz.func33, Tryz.ntmps33
 go_wp2_with fail
 refine (word_is _ 7 (insL.getD 7 Sh.none).nm _ (by decide +kernel) (by decide) (by kernel_rfl)).mono ?_
 rintro e w1 ⟨rfl, rfl⟩
 rw [show (insL.getD 7 Sh.none).nm = _ from rfl]
 go_wp2_with fail
 refine (operand_ref _ 7 (by decide)).mono ?_
 rintro e w2 ⟨rfl, rfl⟩
 rw [show ((kix 7 : Nat) : Int) = 2 from by kernel_rfl]
 go_wp2
 refine bodyPost_ret (v := .tuple #[.agg (insL.getD 7 Sh.none).cells.toArray, .bool true]) ?_ rfl ⟨rfl, HK.out⟩
 exact results_row_tmp (by rfl) _ _ ⟨w.heap.size, 0, none⟩ _ _ (by rfl) (by rfl) (run_loadVar_row _ w.heap.size 89 89 _ (0, 0) _ HX.out Tryz.underlying89 rfl size27)
set_option maxHeartbeats 4000000 in
theorem rof_8 (w : World) : Calls Tryz.prog 33 #[.int .i64 8] w fun e w' => e = .returned (.tuple #[.agg (insL.getD 8 Sh.none).cells.toArray, .bool true]) ∧ Kept (fun _ => False) w w' := by
 have hX := heap_alloc2_old w (.cells (insL.getD 8 Sh.none).cells.toArray 89) (.cells (insL.getD 8 Sh.none).cells.toArray 89)
 have hK := ((Kept.refl (fun _ => False) w).alloc (.cells (insL.getD 8 Sh.none).cells.toArray 89)).alloc (.cells (insL.getD 8 Sh.none).cells.toArray 89)
 have HX := hid_of hX
 have HK := hid_of hK
 clear hX hK
 go_enter Tryz.func33, Tryz.ntmps33
 go_wp2_with fail
 refine (word_is _ 8 (insL.getD 8 Sh.none).nm _ (by decide +kernel) (by decide) (by kernel_rfl)).mono ?_
 rintro e w1 ⟨rfl, rfl⟩
 rw [show (insL.getD 8 Sh.none).nm = _ from rfl]
 go_wp2_with fail
 refine (operand_ref _ 8 (by decide)).mono ?_
 rintro e w2 ⟨rfl, rfl⟩
 rw [show ((kix 8 : Nat) : Int) = 2 from by kernel_rfl]
 go_wp2
 refine bodyPost_ret (v := .tuple #[.agg (insL.getD 8 Sh.none).cells.toArray, .bool true]) ?_ rfl ⟨rfl, HK.out⟩
 exact results_row_tmp (by rfl) _ _ ⟨w.heap.size, 0, none⟩ _ _ (by rfl) (by rfl) (run_loadVar_row _ w.heap.size 89 89 _ (0, 0) _ HX.out Tryz.underlying89 rfl size27)
set_option maxHeartbeats 4000000 in
theorem rof_9 (w : World) : Calls Tryz.prog 33 #[.int .i64 9] w fun e w' => e = .returned (.tuple #[.agg (insL.getD 9 Sh.none).cells.toArray, .bool true]) ∧ Kept (fun _ => False) w w' := by
 have hX := heap_alloc2_old w (.cells (insL.getD 9 Sh.none).cells.toArray 89) (.cells (insL.getD 9 Sh.none).cells.toArray 89)
 have hK := ((Kept.refl (fun _ => False) w).alloc (.cells (insL.getD 9 Sh.none).cells.toArray 89)).alloc (.cells (insL.getD 9 Sh.none).cells.toArray 89)
 have HX := hid_of hX
 have HK := hid_of hK
 clear hX hK
 go_enter Tryz.func33, Tryz.ntmps33
 go_wp2_with fail
 refine (word_is _ 9 (insL.getD 9 Sh.none).nm _ (by decide +kernel) (by decide) (by kernel_rfl)).mono ?_
 rintro e w1 ⟨rfl, rfl⟩
 rw [show (insL.getD 9 Sh.none).nm = _ from rfl]
 go_wp2_with fail
 refine (operand_ref _ 9 (by decide)).mono ?_
 rintro e w2 ⟨rfl, rfl⟩
 rw [show ((kix 9 : Nat) : Int) = 0 from by kernel_rfl]
 go_wp2
 refine bodyPost_ret (v := .tuple #[.agg (insL.getD 9 Sh.none).cells.toArray, .bool true]) ?_ rfl ⟨rfl, HK.out⟩
 exact results_row_tmp (by rfl) _ _ ⟨w.heap.size, 0, none⟩ _ _ (by rfl) (by rfl) (run_loadVar_row _ w.heap.size 89 89 _ (0, 0) _ HX.out Tryz.underlying89 rfl size27)
set_option maxHeartbeats 4000000 in
theorem rof_10 (w : World) : Calls Tryz.prog 33 #[.int .i64 10] w fun e w' => e = .returned (.tuple #[.agg (insL.getD 10 Sh.none).cells.toArray, .bool true]) ∧ Kept (fun _ => False) w w' := by
 have hX := heap_alloc2_old w (.cells (insL.getD 10 Sh.none).cells.toArray 89) (.cells (insL.getD 10 Sh.none).cells.toArray 89)
 have hK := ((Kept.refl (fun _ => False) w).alloc (.cells (insL.getD 10 Sh.none).cells.toArray 89)).alloc (.cells (insL.getD 10 Sh.none).cells.toArray 89)
 have HX := hid_of hX
 have HK := hid_of hK
 clear hX hK
 go_enter Tryz.func33, Tryz.ntmps33
 go_wp2_with fail
 refine (word_is _ 10 (insL.getD 10 Sh.none).nm _ (by decide +kernel) (by decide) (by kernel_rfl)).mono ?_
 rintro e w1 ⟨rfl, rfl⟩
 rw [show (insL.getD 10 Sh.none).nm = _ from rfl]
 go_wp2_with fail
 refine (operand_ref _ 10 (by decide)).mono ?_
 rintro e w2 ⟨rfl, rfl⟩
 rw [show ((kix 10 : Nat) : Int) = 0 from by kernel_rfl]
 go_wp2
 refine bodyPost_ret (v := .tuple #[.agg (insL.getD 10 Sh.none).cells.toArray, .bool true]) ?_ rfl ⟨rfl, HK.out⟩
 exact results_row_tmp (by rfl) _ _ ⟨w.heap.size, 0, none⟩ _ _ (by rfl) (by rfl) (run_loadVar_row _ w.heap.size 89 89 _ (0, 0) _ HX.out Tryz.underlying89 rfl size27)
set_option maxHeartbeats 4000000 in
theorem rof_11 (w : World) : Calls Tryz.prog 33 #[.int .i64 11] w fun e w' => e = .returned (.tuple #[.agg (insL.getD 11 Sh.none).cells.toArray, .bool true]) ∧ Kept (fun _ => False) w w' := by
 have hX := heap_alloc2_old w (.cells (insL.getD 11 Sh.none).cells.toArray 89) (.cells (insL.getD 11 Sh.none).cells.toArray 89)
 have hK := ((Kept.refl (fun _ => False) w).alloc (.cells (insL.getD 11 Sh.none).cells.toArray 89)).alloc (.cells (insL.getD 11 Sh.none).cells.toArray 89)
 have HX := hid_of hX
 have HK := hid_of hK
 clear hX hK
 go_enter Tryz.func33, Tryz.ntmps33
 go_wp2_with fail
 refine (word_is _ 11 (insL.getD 11 Sh.none).nm _ (by decide +kernel) (by decide) (by kernel_rfl)).mono ?_
 rintro e w1 ⟨rfl, rfl⟩
 rw [show (insL.getD 11 Sh.none).nm = _ from rfl]
 go_wp2_with fail
 refine (operand_ref _ 11 (by decide)).mono ?_
 rintro e w2 ⟨rfl, rfl⟩
 rw [show ((kix 11 : Nat) : Int) = 0 from by kernel_rfl]
 go_wp2
 refine bodyPost_ret (v := .tuple #[.agg (insL.getD 11 Sh.none).cells.toArray, .bool true]) ?_ rfl ⟨rfl, HK.out⟩
 exact results_row_tmp (by rfl) _ _ ⟨w.heap.size, 0, none⟩ _ _ (by rfl) (by rfl) (run_loadVar_row _ w.heap.size 89 89 _ (0, 0) _ HX.out Tryz.underlying89 rfl size27)
set_option maxHeartbeats 4000000 in
theorem rof_12 (w : World) : Calls Tryz.prog 33 #[.int .i64 12] w fun e w' => e = .returned (.tuple #[.agg (insL.getD 12 Sh.none).cells.toArray, .bool true]) ∧ Kept (fun _ => False) w w' := by
 have hX := heap_alloc2_old w (.cells (insL.getD 12 Sh.none).cells.toArray 89) (.cells (insL.getD 12 Sh.none).cells.toArray 89)
 have hK := ((Kept.refl (fun _ => False) w).alloc (.cells (insL.getD 12 Sh.none).cells.toArray 89)).alloc (.cells (insL.getD 12 Sh.none).cells.toArray 89)
 have HX := hid_of hX
 have HK := hid_of hK
 clear hX hK
 go_enter Tryz.func33, Tryz.ntmps33
 go_wp2_with fail
 refine (word_is _ 12 (insL.getD 12 Sh.none).nm _ (by decide +kernel) (by decide) (by kernel_rfl)).mono ?_
 rintro e w1 ⟨rfl, rfl⟩
 rw [show (insL.getD 12 Sh.none).nm = _ from rfl]
 go_wp2_with fail
 refine (operand_ref _ 12 (by decide)).mono ?_
 rintro e w2 ⟨rfl, rfl⟩
 rw [show ((kix 12 : Nat) : Int) = 0 from by kernel_rfl]
 go_wp2
 refine bodyPost_ret (v := .tuple #[.agg (insL.getD 12 Sh.none).cells.toArray, .bool true]) ?_ rfl ⟨rfl, HK.out⟩
 exact results_row_tmp (by rfl) _ _ ⟨w.heap.size, 0, none⟩ _ _ (by rfl) (by rfl) (run_loadVar_row _ w.heap.size 89 89 _ (0, 0) _ HX.out Tryz.underlying89 rfl size27)
set_option maxHeartbeats 4000000 in
theorem rof_13 (w : World) : Calls Tryz.prog 33 #[.int .i64 13] w fun e w' => e = .returned (.tuple #[.agg (insL.getD 13 Sh.none).cells.toArray, .bool true]) ∧ Kept (fun _ => False) w w' := by
 have hX := heap_alloc2_old w (.cells (insL.getD 13 Sh.none).cells.toArray 89) (.cells (insL.getD 13 Sh.none).cells.toArray 89)
 have hK := ((Kept.refl (fun _ => False) w).alloc (.cells (insL.getD 13 Sh.none).cells.toArray 89)).alloc (.cells (insL.getD 13 Sh.none).cells.toArray 89)
 have HX := hid_of hX
 have HK := hid_of hK
 clear hX hK
 go_enter Tryz.func33, Tryz.ntmps33
 go_wp2_with fail
 refine (word_is _ 13 (insL.getD 13 Sh.none).nm _ (by decide +kernel) (by decide) (by kernel_rfl)).mono ?_
 rintro e w1 ⟨rfl, rfl⟩
 rw [show (insL.getD 13 Sh.none).nm = _ from rfl]
 go_wp2_with fail
 refine (operand_ref _ 13 (by decide)).mono ?_
 rintro e w2 ⟨rfl, rfl⟩
 rw [show ((kix 13 : Nat) : Int) = 0 from by kernel_rfl]
 go_wp2
 refine bodyPost_ret (v := .tuple #[.agg (insL.getD 13 Sh.none).cells.toArray, .bool true]) ?_ rfl ⟨rfl, HK.out⟩
 exact results_row_tmp (by rfl) _ _ ⟨w.heap.size, 0, none⟩ _ _ (by rfl) (by rfl) (run_loadVar_row _ w.heap.size 89 89 _ (0, 0) _ HX.out Tryz.underlying89 rfl size27)
set_option maxHeartbeats 4000000 in
theorem rof_14 (w : World) : Calls Tryz.prog 33 #[.int .i64 14] w fun e w' => e = .returned (.tuple #[.agg (insL.getD 14 Sh.none).cells.toArray, .bool true]) ∧ Kept (fun _ => False) w w' := by
 have hX := heap_alloc2_old w (.cells (insL.getD 14 Sh.none).cells.toArray 89) (.cells (insL.getD 14 Sh.none).cells.toArray 89)
 have hK := ((Kept.refl (fun _ => False) w).alloc (.cells (insL.getD 14 Sh.none).cells.toArray 89)).alloc (.cells (insL.getD 14 Sh.none).cells.toArray 89)
 have HX := hid_of hX
 have HK := hid_of hK
 clear hX hK
 go_enter Tryz.func33, Tryz.ntmps33
 go_wp2_with fail
 refine (word_is _ 14 (insL.getD 14 Sh.none).nm _ (by decide +kernel) (by decide) (by kernel_rfl)).mono ?_
 rintro e w1 ⟨rfl, rfl⟩
 rw [show (insL.getD 14 Sh.none).nm = _ from rfl]
 go_wp2_with fail
 refine (operand_ref _ 14 (by decide)).mono ?_
 rintro e w2 ⟨rfl, rfl⟩
 rw [show ((kix 14 : Nat) : Int) = 3 from by kernel_rfl]
 go_wp2
 refine bodyPost_ret (v := .tuple #[.agg (insL.getD 14 Sh.none).cells.toArray, .bool true]) ?_ rfl ⟨rfl, HK.out⟩
 exact results_row_tmp (by rfl) _ _ ⟨w.heap.size, 0, none⟩ _ _ (by rfl) (by rfl) (run_loadVar_row _ w.heap.size 89 89 _ (0, 0) _ HX.out Tryz.underlying89 rfl size27)
set_option maxHeartbeats 4000000 in
theorem rof_15 (w : World) : Calls Tryz.prog 33 #[.int .i64 15] w fun e w' => e = .returned (.tuple #[.agg (insL.getD 15 Sh.none).cells.toArray, .bool true]) ∧ Kept (fun _ => False) w w' := by
 have hX := heap_alloc2_old w (.cells (insL.getD 15 Sh.none).cells.toArray 89) (.cells (insL.getD 15 Sh.none).cells.toArray 89)
 have hK := ((Kept.refl (fun _ => False) w).alloc (.cells (insL.getD 15 Sh.none).cells.toArray 89)).alloc (.cells (insL.getD 15 Sh.none).cells.toArray 89)
 have HX := hid_of hX
 have HK := hid_of hK
 clear hX hK
 go_enter Tryz.func33, Tryz.ntmps33
 go_wp2_with fail
 refine (word_is _ 15 (insL.getD 15 Sh.none).nm _ (by decide +kernel) (by decide) (by kernel_rfl)).mono ?_
 rintro e w1 ⟨rfl, rfl⟩
 rw [show (insL.getD 15 Sh.none).nm = _ from rfl]
 go_wp2_with fail
 refine (operand_ref _ 15 (by decide)).mono ?_
 rintro e w2 ⟨rfl, rfl⟩
 rw [show ((kix 15 : Nat) : Int) = 3 from by kernel_rfl]
 go_wp2
 refine bodyPost_ret (v := .tuple #[.agg (insL.getD 15 Sh.none).cells.toArray, .bool true]) ?_ rfl ⟨rfl, HK.out⟩
 exact results_row_tmp (by rfl) _ _ ⟨w.heap.size, 0, none⟩ _ _ (by rfl) (by rfl) (run_loadVar_row _ w.heap.size 89 89 _ (0, 0) _ HX.out Tryz.underlying89 rfl size27)
set_option maxHeartbeats 4000000 in
theorem rof_16 (w : World) : Calls Tryz.prog 33 #[.int .i64 16] w fun e w' => e = .returned (.tuple #[.agg (insL.getD 16 Sh.none).cells.toArray, .bool true]) ∧ Kept (fun _ => False) w w' := by
 have hX := heap_alloc2_old w (.cells (insL.getD 16 Sh.none).cells.toArray 89) (.cells (insL.getD 16 Sh.none).cells.toArray 89)
 have hK := ((Kept.refl (fun _ => False) w).alloc (.cells (insL.getD 16 Sh.none).cells.toArray 89)).alloc (.cells (insL.getD 16 Sh.none).cells.toArray 89)
 have HX := hid_of hX
 have HK := hid_of hK
 clear hX hK
 go_enter Tryz.func33, Tryz.ntmps33
 go_wp2_with fail
 refine (word_is _ 16 (insL.getD 16 Sh.none).nm _ (by decide +kernel) (by decide) (by kernel_rfl)).mono ?_
 rintro e w1 ⟨rfl, rfl⟩
 rw [show (insL.getD 16 Sh.none).nm = _ from rfl]
 go_wp2_with fail
 refine (operand_ref _ 16 (by decide)).mono ?_
 rintro e w2 ⟨rfl, rfl⟩
 rw [show ((kix 16 : Nat) : Int) = 3 from by kernel_rfl]
 go_wp2
 refine bodyPost_ret (v := .tuple #[.agg (insL.getD 16 Sh.none).cells.toArray, .bool true]) ?_ rfl ⟨rfl, HK.out⟩
 exact results_row_tmp (by rfl) _ _ ⟨w.heap.size, 0, none⟩ _ _ (by rfl) (by rfl) (run_loadVar_row _ w.heap.size 89 89 _ (0, 0) _ HX.out Tryz.underlying89 rfl size27)
set_option maxHeartbeats 4000000 in
theorem rof_17 (w : World) : Calls Tryz.prog 33 #[.int .i64 17] w fun e w' => e = .returned (.tuple #[.agg (insL.getD 17 Sh.none).cells.toArray, .bool true]) ∧ Kept (fun _ => False) w w' := by
 have hX := heap_alloc2_old w (.cells (insL.getD 17 Sh.none).cells.toArray 89) (.cells (insL.getD 17 Sh.none).cells.toArray 89)
 have hK := ((Kept.refl (fun _ => False) w).alloc (.cells (insL.getD 17 Sh.none).cells.toArray 89)).alloc (.cells (insL.getD 17 Sh.none).cells.toArray 89)
 have HX := hid_of hX
 have HK := hid_of hK
 clear hX hK
 go_enter Tryz.func33, Tryz.ntmps33
 go_wp2_with fail
 refine (word_is _ 17 (insL.getD 17 Sh.none).nm _ (by decide +kernel) (by decide) (by kernel_rfl)).mono ?_
 rintro e w1 ⟨rfl, rfl⟩
 rw [show (insL.getD 17 Sh.none).nm = _ from rfl]
 go_wp2_with fail
 refine (operand_ref _ 17 (by decide)).mono ?_
 rintro e w2 ⟨rfl, rfl⟩
 rw [show ((kix 17 : Nat) : Int) = 4 from by kernel_rfl]
 go_wp2
 refine bodyPost_ret (v := .tuple #[.agg (insL.getD 17 Sh.none).cells.toArray, .bool true]) ?_ rfl ⟨rfl, HK.out⟩
 exact results_row_tmp (by rfl) _ _ ⟨w.heap.size, 0, none⟩ _ _ (by rfl) (by rfl) (run_loadVar_row _ w.heap.size 89 89 _ (0, 0) _ HX.out Tryz.underlying89 rfl size27)
set_option maxHeartbeats 4000000 in
theorem rof_18 (w : World) : Calls Tryz.prog 33 #[.int .i64 18] w fun e w' => e = .returned (.tuple #[.agg (insL.getD 18 Sh.none).cells.toArray, .bool true]) ∧ Kept (fun _ => False) w w' := by
 have hX := heap_alloc2_old w (.cells (insL.getD 18 Sh.none).cells.toArray 89) (.cells (insL.getD 18 Sh.none).cells.toArray 89)
 have hK := ((Kept.refl (fun _ => False) w).alloc (.cells (insL.getD 18 Sh.none).cells.toArray 89)).alloc (.cells (insL.getD 18 Sh.none).cells.toArray 89)
 have HX := hid_of hX
 have HK := hid_of hK
 clear hX hK
 go_enter Tryz.func33, Tryz.ntmps33
 go_wp2_with fail
 refine (word_is _ 18 (insL.getD 18 Sh.none).nm _ (by decide +kernel) (by decide) (by kernel_rfl)).mono ?_
 rintro e w1 ⟨rfl, rfl⟩
 rw [show (insL.getD 18 Sh.none).nm = _ from rfl]
 go_wp2_with fail
 refine (operand_ref _ 18 (by decide)).mono ?_
 rintro e w2 ⟨rfl, rfl⟩
 rw [show ((kix 18 : Nat) : Int) = 0 from by kernel_rfl]
 go_wp2
 refine bodyPost_ret (v := .tuple #[.agg (insL.getD 18 Sh.none).cells.toArray, .bool true]) ?_ rfl ⟨rfl, HK.out⟩
 exact results_row_tmp (by rfl) _ _ ⟨w.heap.size, 0, none⟩ _ _ (by rfl) (by rfl) (run_loadVar_row _ w.heap.size 89 89 _ (0, 0) _ HX.out Tryz.underlying89 rfl size27)
set_option maxHeartbeats 4000000 in
theorem rof_19 (w : World) : Calls Tryz.prog 33 #[.int .i64 19] w fun e w' => e = .returned (.tuple #[.agg (insL.getD 19 Sh.none).cells.toArray, .bool true]) ∧ Kept (fun _ => False) w w' := by
 have hX := heap_alloc2_old w (.cells (insL.getD 19 Sh.none).cells.toArray 89) (.cells (insL.getD 19 Sh.none).cells.toArray 89)
 have hK := ((Kept.refl (fun _ => False) w).alloc (.cells (insL.getD 19 Sh.none).cells.toArray 89)).alloc (.cells (insL.getD 19 Sh.none).cells.toArray 89)
 have HX := hid_of hX
 have HK := hid_of hK
 clear hX hK
 go_enter Tryz.func33, Tryz.ntmps33
 go_wp2_with fail
 refine (word_is _ 19 (insL.getD 19 Sh.none).nm _ (by decide +kernel) (by decide) (by kernel_rfl)).mono ?_
 rintro e w1 ⟨rfl, rfl⟩
 rw [show (insL.getD 19 Sh.none).nm = _ from rfl]
 go_wp2_with fail
 refine (operand_ref _ 19 (by decide)).mono ?_
 rintro e w2 ⟨rfl, rfl⟩
 rw [show ((kix 19 : Nat) : Int) = 5 from by kernel_rfl]
 go_wp2
 refine bodyPost_ret (v := .tuple #[.agg (insL.getD 19 Sh.none).cells.toArray, .bool true]) ?_ rfl ⟨rfl, HK.out⟩
 exact results_row_tmp (by rfl) _ _ ⟨w.heap.size, 0, none⟩ _ _ (by rfl) (by rfl) (run_loadVar_row _ w.heap.size 89 89 _ (0, 0) _ HX.out Tryz.underlying89 rfl size27)
set_option maxHeartbeats 4000000 in
theorem rof_20 (w : World) : Calls Tryz.prog 33 #[.int .i64 20] w fun e w' => e = .returned (.tuple #[.agg (insL.getD 20 Sh.none).cells.toArray, .bool true]) ∧ Kept (fun _ => False) w w' := by
 have hX := heap_alloc2_old w (.cells (insL.getD 20 Sh.none).cells.toArray 89) (.cells (insL.getD 20 Sh.none).cells.toArray 89)
 have hK := ((Kept.refl (fun _ => False) w).alloc (.cells (insL.getD 20 Sh.none).cells.toArray 89)).alloc (.cells (insL.getD 20 Sh.none).cells.toArray 89)
 have HX := hid_of hX
 have HK := hid_of hK
 clear hX hK
 go_enter Tryz.func33, Tryz.ntmps33
 go_wp2_with fail
 refine (word_is _ 20 (insL.getD 20 Sh.none).nm _ (by decide +kernel) (by decide) (by kernel_rfl)).mono ?_
 rintro e w1 ⟨rfl, rfl⟩
 rw [show (insL.getD 20 Sh.none).nm = _ from rfl]
 go_wp2_with fail
 refine (operand_ref _ 20 (by decide)).mono ?_
 rintro e w2 ⟨rfl, rfl⟩
 rw [show ((kix 20 : Nat) : Int) = 0 from by kernel_rfl]
 go_wp2
 refine bodyPost_ret (v := .tuple #[.agg (insL.getD 20 Sh.none).cells.toArray, .bool true]) ?_ rfl ⟨rfl, HK.out⟩
 exact results_row_tmp (by rfl) _ _ ⟨w.heap.size, 0, none⟩ _ _ (by rfl) (by rfl) (run_loadVar_row _ w.heap.size 89 89 _ (0, 0) _ HX.out Tryz.underlying89 rfl size27)
set_option maxHeartbeats 4000000 in
theorem rof_21 (w : World) : Calls Tryz.prog 33 #[.int .i64 21] w fun e w' => e = .returned (.tuple #[.agg (insL.getD 21 Sh.none).cells.toArray, .bool true]) ∧ Kept (fun _ => False) w w' := by
 have hX := heap_alloc2_old w (.cells (insL.getD 21 Sh.none).cells.toArray 89) (.cells (insL.getD 21 Sh.none).cells.toArray 89)
 have hK := ((Kept.refl (fun _ => False) w).alloc (.cells (insL.getD 21 Sh.none).cells.toArray 89)).alloc (.cells (insL.getD 21 Sh.none).cells.toArray 89)
 have HX := hid_of hX
 have HK := hid_of hK
 clear hX hK
 go_enter Tryz.func33, Tryz.ntmps33
 go_wp2_with fail
 refine (word_is _ 21 (insL.getD 21 Sh.none).nm _ (by decide +kernel) (by decide) (by kernel_rfl)).mono ?_
 rintro e w1 ⟨rfl, rfl⟩
 rw [show (insL.getD 21 Sh.none).nm = _ from rfl]
 go_wp2_with fail
 refine (operand_ref _ 21 (by decide)).mono ?_
 rintro e w2 ⟨rfl, rfl⟩
 rw [show ((kix 21 : Nat) : Int) = 0 from by kernel_rfl]
 go_wp2
 refine bodyPost_ret (v := .tuple #[.agg (insL.getD 21 Sh.none).cells.toArray, .bool true]) ?_ rfl ⟨rfl, HK.out⟩
 exact results_row_tmp (by rfl) _ _ ⟨w.heap.size, 0, none⟩ _ _ (by rfl) (by rfl) (run_loadVar_row _ w.heap.size 89 89 _ (0, 0) _ HX.out Tryz.underlying89 rfl size27)
set_option maxHeartbeats 4000000 in
theorem rof_22 (w : World) : Calls Tryz.prog 33 #[.int .i64 22] w fun e w' => e = .returned (.tuple #[.agg (insL.getD 22 Sh.none).cells.toArray, .bool true]) ∧ Kept (fun _ => False) w w' := by
 have hX := heap_alloc2_old w (.cells (insL.getD 22 Sh.none).cells.toArray 89) (.cells (insL.getD 22 Sh.none).cells.toArray 89)
 have hK := ((Kept.refl (fun _ => False) w).alloc (.cells (insL.getD 22 Sh.none).cells.toArray 89)).alloc (.cells (insL.getD 22 Sh.none).cells.toArray 89)
 have HX := hid_of hX
 have HK := hid_of hK
 clear hX hK
 go_enter Tryz.func33, Tryz.ntmps33
 go_wp2_with fail
 refine (word_is _ 22 (insL.getD 22 Sh.none).nm _ (by decide +kernel) (by decide) (by kernel_rfl)).mono ?_
 rintro e w1 ⟨rfl, rfl⟩
 rw [show (insL.getD 22 Sh.none).nm = _ from rfl]
 go_wp2_with fail
 refine (operand_ref _ 22 (by decide)).mono ?_
 rintro e w2 ⟨rfl, rfl⟩
 rw [show ((kix 22 : Nat) : Int) = 0 from by kernel_rfl]
 go_wp2
 refine bodyPost_ret (v := .tuple #[.agg (insL.getD 22 Sh.none).cells.toArray, .bool true]) ?_ rfl ⟨rfl, HK.out⟩
 exact results_row_tmp (by rfl) _ _ ⟨w.heap.size, 0, none⟩ _ _ (by rfl) (by rfl) (run_loadVar_row _ w.heap.size 89 89 _ (0, 0) _ HX.out Tryz.underlying89 rfl size27)
end Go.Proofs.YtgoabnehdmdikaaGreatDoor

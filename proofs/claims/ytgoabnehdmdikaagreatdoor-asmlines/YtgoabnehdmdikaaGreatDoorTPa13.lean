import Derived.Test.YtgoabnehdmdikaaGreatDoorTPa11
import Derived.Test.YtgoabnehdmdikaaGreatDoorTPa12
import Derived.Test.YtgoabnehdmdikaaGreatDoorTPa7
import Derived.Test.YtgoabnehdmdikaaGreatDoorTPa5
namespace Go.Proofs.YtgoabnehdmdikaaGreatDoor
open Go.RowKit
set_option linter.unusedVariables false
set_option linter.unusedSimpArgs false
set_option maxRecDepth 100000
theorem size27b : (Tryz.prog.info? 89).map (·.size) = some 4 := by kernel_rfl
set_option maxHeartbeats 4000000 in
theorem rof_23 (w : World) : Calls Tryz.prog 33 #[.int .i64 23] w fun e w' => e = .returned (.tuple #[.agg (insL.getD 23 Sh.none).cells.toArray, .bool true]) ∧ Kept (fun _ => False) w w' := by
 have hX := heap_alloc2_old w (.cells (insL.getD 23 Sh.none).cells.toArray 89) (.cells (insL.getD 23 Sh.none).cells.toArray 89)
 have hK := ((Kept.refl (fun _ => False) w).alloc (.cells (insL.getD 23 Sh.none).cells.toArray 89)).alloc (.cells (insL.getD 23 Sh.none).cells.toArray 89)
 have HX := hid_of hX
 have HK := hid_of hK
 clear hX hK
 go_enter Tryz.func33, Tryz.ntmps33
 go_wp2_with fail
 refine (word_is _ 23 (insL.getD 23 Sh.none).nm _ (by decide +kernel) (by decide) (by kernel_rfl)).mono ?_
 rintro e w1 ⟨rfl, rfl⟩
 rw [show (insL.getD 23 Sh.none).nm = _ from rfl]
 go_wp2_with fail
 refine (operand_ref _ 23 (by decide)).mono ?_
 rintro e w2 ⟨rfl, rfl⟩
 rw [show ((kix 23 : Nat) : Int) = 0 from by kernel_rfl]
 go_wp2
 refine bodyPost_ret (v := .tuple #[.agg (insL.getD 23 Sh.none).cells.toArray, .bool true]) ?_ rfl ⟨rfl, HK.out⟩
 exact results_row_tmp (by rfl) _ _ ⟨w.heap.size, 0, none⟩ _ _ (by rfl) (by rfl) (run_loadVar_row _ w.heap.size 89 89 _ (0, 0) _ HX.out Tryz.underlying89 rfl size27b)
set_option maxHeartbeats 4000000 in
theorem rof_24 (w : World) : Calls Tryz.prog 33 #[.int .i64 24] w fun e w' => e = .returned (.tuple #[.agg (insL.getD 24 Sh.none).cells.toArray, .bool true]) ∧ Kept (fun _ => False) w w' := by
 have hX := heap_alloc2_old w (.cells (insL.getD 24 Sh.none).cells.toArray 89) (.cells (insL.getD 24 Sh.none).cells.toArray 89)
 have hK := ((Kept.refl (fun _ => False) w).alloc (.cells (insL.getD 24 Sh.none).cells.toArray 89)).alloc (.cells (insL.getD 24 Sh.none).cells.toArray 89)
 have HX := hid_of hX
 have HK := hid_of hK
 clear hX hK
 go_enter Tryz.func33, Tryz.ntmps33
 go_wp2_with fail
 refine (word_is _ 24 (insL.getD 24 Sh.none).nm _ (by decide +kernel) (by decide) (by kernel_rfl)).mono ?_
 rintro e w1 ⟨rfl, rfl⟩
 rw [show (insL.getD 24 Sh.none).nm = _ from rfl]
 go_wp2_with fail
 refine (operand_ref _ 24 (by decide)).mono ?_
 rintro e w2 ⟨rfl, rfl⟩
 rw [show ((kix 24 : Nat) : Int) = 0 from by kernel_rfl]
 go_wp2
 refine bodyPost_ret (v := .tuple #[.agg (insL.getD 24 Sh.none).cells.toArray, .bool true]) ?_ rfl ⟨rfl, HK.out⟩
 exact results_row_tmp (by rfl) _ _ ⟨w.heap.size, 0, none⟩ _ _ (by rfl) (by rfl) (run_loadVar_row _ w.heap.size 89 89 _ (0, 0) _ HX.out Tryz.underlying89 rfl size27b)
set_option maxHeartbeats 4000000 in
theorem rof_25 (w : World) : Calls Tryz.prog 33 #[.int .i64 25] w fun e w' => e = .returned (.tuple #[.agg (insL.getD 25 Sh.none).cells.toArray, .bool true]) ∧ Kept (fun _ => False) w w' := by
 have hX := heap_alloc2_old w (.cells (insL.getD 25 Sh.none).cells.toArray 89) (.cells (insL.getD 25 Sh.none).cells.toArray 89)
 have hK := ((Kept.refl (fun _ => False) w).alloc (.cells (insL.getD 25 Sh.none).cells.toArray 89)).alloc (.cells (insL.getD 25 Sh.none).cells.toArray 89)
 have HX := hid_of hX
 have HK := hid_of hK
 clear hX hK
 go_enter Tryz.func33, Tryz.ntmps33
 go_wp2_with fail
 refine (word_is _ 25 (insL.getD 25 Sh.none).nm _ (by decide +kernel) (by decide) (by kernel_rfl)).mono ?_
 rintro e w1 ⟨rfl, rfl⟩
 rw [show (insL.getD 25 Sh.none).nm = _ from rfl]
 go_wp2_with fail
 refine (operand_ref _ 25 (by decide)).mono ?_
 rintro e w2 ⟨rfl, rfl⟩
 rw [show ((kix 25 : Nat) : Int) = 0 from by kernel_rfl]
 go_wp2
 refine bodyPost_ret (v := .tuple #[.agg (insL.getD 25 Sh.none).cells.toArray, .bool true]) ?_ rfl ⟨rfl, HK.out⟩
 exact results_row_tmp (by rfl) _ _ ⟨w.heap.size, 0, none⟩ _ _ (by rfl) (by rfl) (run_loadVar_row _ w.heap.size 89 89 _ (0, 0) _ HX.out Tryz.underlying89 rfl size27b)
set_option maxHeartbeats 4000000 in
theorem rof_26 (w : World) : Calls Tryz.prog 33 #[.int .i64 26] w fun e w' => e = .returned (.tuple #[.agg (insL.getD 26 Sh.none).cells.toArray, .bool true]) ∧ Kept (fun _ => False) w w' := by
 have hX := heap_alloc2_old w (.cells (insL.getD 26 Sh.none).cells.toArray 89) (.cells (insL.getD 26 Sh.none).cells.toArray 89)
 have hK := ((Kept.refl (fun _ => False) w).alloc (.cells (insL.getD 26 Sh.none).cells.toArray 89)).alloc (.cells (insL.getD 26 Sh.none).cells.toArray 89)
 have HX := hid_of hX
 have HK := hid_of hK
 clear hX hK
 go_enter Tryz.func33, Tryz.ntmps33
 go_wp2_with fail
 refine (word_is _ 26 (insL.getD 26 Sh.none).nm _ (by decide +kernel) (by decide) (by kernel_rfl)).mono ?_
 rintro e w1 ⟨rfl, rfl⟩
 rw [show (insL.getD 26 Sh.none).nm = _ from rfl]
 go_wp2_with fail
 refine (operand_ref _ 26 (by decide)).mono ?_
 rintro e w2 ⟨rfl, rfl⟩
 rw [show ((kix 26 : Nat) : Int) = 0 from by kernel_rfl]
 go_wp2
 refine bodyPost_ret (v := .tuple #[.agg (insL.getD 26 Sh.none).cells.toArray, .bool true]) ?_ rfl ⟨rfl, HK.out⟩
 exact results_row_tmp (by rfl) _ _ ⟨w.heap.size, 0, none⟩ _ _ (by rfl) (by rfl) (run_loadVar_row _ w.heap.size 89 89 _ (0, 0) _ HX.out Tryz.underlying89 rfl size27b)
set_option maxHeartbeats 4000000 in
theorem rof_27 (w : World) : Calls Tryz.prog 33 #[.int .i64 27] w fun e w' => e = .returned (.tuple #[.agg (insL.getD 27 Sh.none).cells.toArray, .bool true]) ∧ Kept (fun _ => False) w w' := by
 have hX := heap_alloc2_old w (.cells (insL.getD 27 Sh.none).cells.toArray 89) (.cells (insL.getD 27 Sh.none).cells.toArray 89)
 have hK := ((Kept.refl (fun _ => False) w).alloc (.cells (insL.getD 27 Sh.none).cells.toArray 89)).alloc (.cells (insL.getD 27 Sh.none).cells.toArray 89)
 have HX := hid_of hX
 have HK := hid_of hK
 clear hX hK
 go_enter Tryz.func33, Tryz.ntmps33
 go_wp2_with fail
 refine (word_is _ 27 (insL.getD 27 Sh.none).nm _ (by decide +kernel) (by decide) (by kernel_rfl)).mono ?_
 rintro e w1 ⟨rfl, rfl⟩
 rw [show (insL.getD 27 Sh.none).nm = _ from rfl]
 go_wp2_with fail
 refine (operand_ref _ 27 (by decide)).mono ?_
 rintro e w2 ⟨rfl, rfl⟩
 rw [show ((kix 27 : Nat) : Int) = 0 from by kernel_rfl]
 go_wp2
 refine bodyPost_ret (v := .tuple #[.agg (insL.getD 27 Sh.none).cells.toArray, .bool true]) ?_ rfl ⟨rfl, HK.out⟩
 exact results_row_tmp (by rfl) _ _ ⟨w.heap.size, 0, none⟩ _ _ (by rfl) (by rfl) (run_loadVar_row _ w.heap.size 89 89 _ (0, 0) _ HX.out Tryz.underlying89 rfl size27b)
set_option maxHeartbeats 4000000 in
theorem rof_28 (w : World) : Calls Tryz.prog 33 #[.int .i64 28] w fun e w' => e = .returned (.tuple #[.agg (insL.getD 28 Sh.none).cells.toArray, .bool true]) ∧ Kept (fun _ => False) w w' := by
 have hX := heap_alloc2_old w (.cells (insL.getD 28 Sh.none).cells.toArray 89) (.cells (insL.getD 28 Sh.none).cells.toArray 89)
 have hK := ((Kept.refl (fun _ => False) w).alloc (.cells (insL.getD 28 Sh.none).cells.toArray 89)).alloc (.cells (insL.getD 28 Sh.none).cells.toArray 89)
 have HX := hid_of hX
 have HK := hid_of hK
 clear hX hK
 go_enter Tryz.func33, Tryz.ntmps33
 go_wp2_with fail
 refine (word_is _ 28 (insL.getD 28 Sh.none).nm _ (by decide +kernel) (by decide) (by kernel_rfl)).mono ?_
 rintro e w1 ⟨rfl, rfl⟩
 rw [show (insL.getD 28 Sh.none).nm = _ from rfl]
 go_wp2_with fail
 refine (operand_ref _ 28 (by decide)).mono ?_
 rintro e w2 ⟨rfl, rfl⟩
 rw [show ((kix 28 : Nat) : Int) = 0 from by kernel_rfl]
 go_wp2
 refine bodyPost_ret (v := .tuple #[.agg (insL.getD 28 Sh.none).cells.toArray, .bool true]) ?_ rfl ⟨rfl, HK.out⟩
 exact results_row_tmp (by rfl) _ _ ⟨w.heap.size, 0, none⟩ _ _ (by rfl) (by rfl) (run_loadVar_row _ w.heap.size 89 89 _ (0, 0) _ HX.out Tryz.underlying89 rfl size27b)
set_option maxHeartbeats 4000000 in
theorem rof_29 (w : World) : Calls Tryz.prog 33 #[.int .i64 29] w fun e w' => e = .returned (.tuple #[.agg (insL.getD 29 Sh.none).cells.toArray, .bool true]) ∧ Kept (fun _ => False) w w' := by
 have hX := heap_alloc2_old w (.cells (insL.getD 29 Sh.none).cells.toArray 89) (.cells (insL.getD 29 Sh.none).cells.toArray 89)
 have hK := ((Kept.refl (fun _ => False) w).alloc (.cells (insL.getD 29 Sh.none).cells.toArray 89)).alloc (.cells (insL.getD 29 Sh.none).cells.toArray 89)
 have HX := hid_of hX
 have HK := hid_of hK
 clear hX hK
 go_enter Tryz.func33, Tryz.ntmps33
 go_wp2_with fail
 refine (word_is _ 29 (insL.getD 29 Sh.none).nm _ (by decide +kernel) (by decide) (by kernel_rfl)).mono ?_
 rintro e w1 ⟨rfl, rfl⟩
 rw [show (insL.getD 29 Sh.none).nm = _ from rfl]
 go_wp2_with fail
 refine (operand_ref _ 29 (by decide)).mono ?_
 rintro e w2 ⟨rfl, rfl⟩
 rw [show ((kix 29 : Nat) : Int) = 0 from by kernel_rfl]
 go_wp2
 refine bodyPost_ret (v := .tuple #[.agg (insL.getD 29 Sh.none).cells.toArray, .bool true]) ?_ rfl ⟨rfl, HK.out⟩
 exact results_row_tmp (by rfl) _ _ ⟨w.heap.size, 0, none⟩ _ _ (by rfl) (by rfl) (run_loadVar_row _ w.heap.size 89 89 _ (0, 0) _ HX.out Tryz.underlying89 rfl size27b)
set_option maxHeartbeats 4000000 in
theorem rof_30 (w : World) : Calls Tryz.prog 33 #[.int .i64 30] w fun e w' => e = .returned (.tuple #[.agg (insL.getD 30 Sh.none).cells.toArray, .bool true]) ∧ Kept (fun _ => False) w w' := by
 have hX := heap_alloc2_old w (.cells (insL.getD 30 Sh.none).cells.toArray 89) (.cells (insL.getD 30 Sh.none).cells.toArray 89)
 have hK := ((Kept.refl (fun _ => False) w).alloc (.cells (insL.getD 30 Sh.none).cells.toArray 89)).alloc (.cells (insL.getD 30 Sh.none).cells.toArray 89)
 have HX := hid_of hX
 have HK := hid_of hK
 clear hX hK
 go_enter Tryz.func33, Tryz.ntmps33
 go_wp2_with fail
 refine (word_is _ 30 (insL.getD 30 Sh.none).nm _ (by decide +kernel) (by decide) (by kernel_rfl)).mono ?_
 rintro e w1 ⟨rfl, rfl⟩
 rw [show (insL.getD 30 Sh.none).nm = _ from rfl]
 go_wp2_with fail
 refine (operand_ref _ 30 (by decide)).mono ?_
 rintro e w2 ⟨rfl, rfl⟩
 rw [show ((kix 30 : Nat) : Int) = 0 from by kernel_rfl]
 go_wp2
 refine bodyPost_ret (v := .tuple #[.agg (insL.getD 30 Sh.none).cells.toArray, .bool true]) ?_ rfl ⟨rfl, HK.out⟩
 exact results_row_tmp (by rfl) _ _ ⟨w.heap.size, 0, none⟩ _ _ (by rfl) (by rfl) (run_loadVar_row _ w.heap.size 89 89 _ (0, 0) _ HX.out Tryz.underlying89 rfl size27b)
set_option maxHeartbeats 4000000 in
theorem rof_31 (w : World) : Calls Tryz.prog 33 #[.int .i64 31] w fun e w' => e = .returned (.tuple #[.agg (insL.getD 31 Sh.none).cells.toArray, .bool true]) ∧ Kept (fun _ => False) w w' := by
 have hX := heap_alloc2_old w (.cells (insL.getD 31 Sh.none).cells.toArray 89) (.cells (insL.getD 31 Sh.none).cells.toArray 89)
 have hK := ((Kept.refl (fun _ => False) w).alloc (.cells (insL.getD 31 Sh.none).cells.toArray 89)).alloc (.cells (insL.getD 31 Sh.none).cells.toArray 89)
 have HX := hid_of hX
 have HK := hid_of hK
 clear hX hK
 go_enter Tryz.func33, Tryz.ntmps33
 go_wp2_with fail
 refine (word_is _ 31 (insL.getD 31 Sh.none).nm _ (by decide +kernel) (by decide) (by kernel_rfl)).mono ?_
 rintro e w1 ⟨rfl, rfl⟩
 rw [show (insL.getD 31 Sh.none).nm = _ from rfl]
 go_wp2_with fail
 refine (operand_ref _ 31 (by decide)).mono ?_
 rintro e w2 ⟨rfl, rfl⟩
 rw [show ((kix 31 : Nat) : Int) = 0 from by kernel_rfl]
 go_wp2
 refine bodyPost_ret (v := .tuple #[.agg (insL.getD 31 Sh.none).cells.toArray, .bool true]) ?_ rfl ⟨rfl, HK.out⟩
 exact results_row_tmp (by rfl) _ _ ⟨w.heap.size, 0, none⟩ _ _ (by rfl) (by rfl) (run_loadVar_row _ w.heap.size 89 89 _ (0, 0) _ HX.out Tryz.underlying89 rfl size27b)
set_option maxHeartbeats 4000000 in
theorem rof_32 (w : World) : Calls Tryz.prog 33 #[.int .i64 32] w fun e w' => e = .returned (.tuple #[.agg (insL.getD 32 Sh.none).cells.toArray, .bool true]) ∧ Kept (fun _ => False) w w' := by
 have hX := heap_alloc2_old w (.cells (insL.getD 32 Sh.none).cells.toArray 89) (.cells (insL.getD 32 Sh.none).cells.toArray 89)
 have hK := ((Kept.refl (fun _ => False) w).alloc (.cells (insL.getD 32 Sh.none).cells.toArray 89)).alloc (.cells (insL.getD 32 Sh.none).cells.toArray 89)
 have HX := hid_of hX
 have HK := hid_of hK
 clear hX hK
 go_enter Tryz.func33, Tryz.ntmps33
 go_wp2_with fail
 refine (word_is _ 32 (insL.getD 32 Sh.none).nm _ (by decide +kernel) (by decide) (by kernel_rfl)).mono ?_
 rintro e w1 ⟨rfl, rfl⟩
 rw [show (insL.getD 32 Sh.none).nm = _ from rfl]
 go_wp2_with fail
 refine (operand_ref _ 32 (by decide)).mono ?_
 rintro e w2 ⟨rfl, rfl⟩
 rw [show ((kix 32 : Nat) : Int) = 0 from by kernel_rfl]
 go_wp2
 refine bodyPost_ret (v := .tuple #[.agg (insL.getD 32 Sh.none).cells.toArray, .bool true]) ?_ rfl ⟨rfl, HK.out⟩
 exact results_row_tmp (by rfl) _ _ ⟨w.heap.size, 0, none⟩ _ _ (by rfl) (by rfl) (run_loadVar_row _ w.heap.size 89 89 _ (0, 0) _ HX.out Tryz.underlying89 rfl size27b)
set_option maxHeartbeats 4000000 in
theorem rof_33 (w : World) : Calls Tryz.prog 33 #[.int .i64 33] w fun e w' => e = .returned (.tuple #[.agg (insL.getD 33 Sh.none).cells.toArray, .bool true]) ∧ Kept (fun _ => False) w w' := by
 have hX := heap_alloc2_old w (.cells (insL.getD 33 Sh.none).cells.toArray 89) (.cells (insL.getD 33 Sh.none).cells.toArray 89)
 have hK := ((Kept.refl (fun _ => False) w).alloc (.cells (insL.getD 33 Sh.none).cells.toArray 89)).alloc (.cells (insL.getD 33 Sh.none).cells.toArray 89)
 have HX := hid_of hX
 have HK := hid_of hK
 clear hX hK
 go_enter Tryz.func33, Tryz.ntmps33
 go_wp2_with fail
 refine (word_is _ 33 (insL.getD 33 Sh.none).nm _ (by decide +kernel) (by decide) (by kernel_rfl)).mono ?_
 rintro e w1 ⟨rfl, rfl⟩
 rw [show (insL.getD 33 Sh.none).nm = _ from rfl]
 go_wp2_with fail
 refine (operand_ref _ 33 (by decide)).mono ?_
 rintro e w2 ⟨rfl, rfl⟩
 rw [show ((kix 33 : Nat) : Int) = 0 from by kernel_rfl]
 go_wp2
 refine bodyPost_ret (v := .tuple #[.agg (insL.getD 33 Sh.none).cells.toArray, .bool true]) ?_ rfl ⟨rfl, HK.out⟩
 exact results_row_tmp (by rfl) _ _ ⟨w.heap.size, 0, none⟩ _ _ (by rfl) (by rfl) (run_loadVar_row _ w.heap.size 89 89 _ (0, 0) _ HX.out Tryz.underlying89 rfl size27b)
set_option maxHeartbeats 4000000 in
theorem rof_34 (w : World) : Calls Tryz.prog 33 #[.int .i64 34] w fun e w' => e = .returned (.tuple #[.agg (insL.getD 34 Sh.none).cells.toArray, .bool true]) ∧ Kept (fun _ => False) w w' := by
 have hX := heap_alloc2_old w (.cells (insL.getD 34 Sh.none).cells.toArray 89) (.cells (insL.getD 34 Sh.none).cells.toArray 89)
 have hK := ((Kept.refl (fun _ => False) w).alloc (.cells (insL.getD 34 Sh.none).cells.toArray 89)).alloc (.cells (insL.getD 34 Sh.none).cells.toArray 89)
 have HX := hid_of hX
 have HK := hid_of hK
 clear hX hK
 go_enter Tryz.func33, Tryz.ntmps33
 go_wp2_with fail
 refine (word_is _ 34 (insL.getD 34 Sh.none).nm _ (by decide +kernel) (by decide) (by kernel_rfl)).mono ?_
 rintro e w1 ⟨rfl, rfl⟩
 rw [show (insL.getD 34 Sh.none).nm = _ from rfl]
 go_wp2_with fail
 refine (operand_ref _ 34 (by decide)).mono ?_
 rintro e w2 ⟨rfl, rfl⟩
 rw [show ((kix 34 : Nat) : Int) = 0 from by kernel_rfl]
 go_wp2
 refine bodyPost_ret (v := .tuple #[.agg (insL.getD 34 Sh.none).cells.toArray, .bool true]) ?_ rfl ⟨rfl, HK.out⟩
 exact results_row_tmp (by rfl) _ _ ⟨w.heap.size, 0, none⟩ _ _ (by rfl) (by rfl) (run_loadVar_row _ w.heap.size 89 89 _ (0, 0) _ HX.out Tryz.underlying89 rfl size27b)
set_option maxHeartbeats 4000000 in
theorem rof_35 (w : World) : Calls Tryz.prog 33 #[.int .i64 35] w fun e w' => e = .returned (.tuple #[.agg (insL.getD 35 Sh.none).cells.toArray, .bool true]) ∧ Kept (fun _ => False) w w' := by
 have hX := heap_alloc2_old w (.cells (insL.getD 35 Sh.none).cells.toArray 89) (.cells (insL.getD 35 Sh.none).cells.toArray 89)
 have hK := ((Kept.refl (fun _ => False) w).alloc (.cells (insL.getD 35 Sh.none).cells.toArray 89)).alloc (.cells (insL.getD 35 Sh.none).cells.toArray 89)
 have HX := hid_of hX
 have HK := hid_of hK
 clear hX hK
 go_enter Tryz.func33, Tryz.ntmps33
 go_wp2_with fail
 refine (word_is _ 35 (insL.getD 35 Sh.none).nm _ (by decide +kernel) (by decide) (by kernel_rfl)).mono ?_
 rintro e w1 ⟨rfl, rfl⟩
 rw [show (insL.getD 35 Sh.none).nm = _ from rfl]
 go_wp2_with fail
 refine (operand_ref _ 35 (by decide)).mono ?_
 rintro e w2 ⟨rfl, rfl⟩
 rw [show ((kix 35 : Nat) : Int) = 0 from by kernel_rfl]
 go_wp2
 refine bodyPost_ret (v := .tuple #[.agg (insL.getD 35 Sh.none).cells.toArray, .bool true]) ?_ rfl ⟨rfl, HK.out⟩
 exact results_row_tmp (by rfl) _ _ ⟨w.heap.size, 0, none⟩ _ _ (by rfl) (by rfl) (run_loadVar_row _ w.heap.size 89 89 _ (0, 0) _ HX.out Tryz.underlying89 rfl size27b)
set_option maxHeartbeats 4000000 in
theorem rof_36 (w : World) : Calls Tryz.prog 33 #[.int .i64 36] w fun e w' => e = .returned (.tuple #[.agg (insL.getD 36 Sh.none).cells.toArray, .bool true]) ∧ Kept (fun _ => False) w w' := by
 have hX := heap_alloc2_old w (.cells (insL.getD 36 Sh.none).cells.toArray 89) (.cells (insL.getD 36 Sh.none).cells.toArray 89)
 have hK := ((Kept.refl (fun _ => False) w).alloc (.cells (insL.getD 36 Sh.none).cells.toArray 89)).alloc (.cells (insL.getD 36 Sh.none).cells.toArray 89)
 have HX := hid_of hX
 have HK := hid_of hK
 clear hX hK
 go_enter Tryz.func33, Tryz.ntmps33
 go_wp2_with fail
 refine (word_is _ 36 (insL.getD 36 Sh.none).nm _ (by decide +kernel) (by decide) (by kernel_rfl)).mono ?_
 rintro e w1 ⟨rfl, rfl⟩
 rw [show (insL.getD 36 Sh.none).nm = _ from rfl]
 go_wp2_with fail
 refine (operand_ref _ 36 (by decide)).mono ?_
 rintro e w2 ⟨rfl, rfl⟩
 rw [show ((kix 36 : Nat) : Int) = 0 from by kernel_rfl]
 go_wp2
 refine bodyPost_ret (v := .tuple #[.agg (insL.getD 36 Sh.none).cells.toArray, .bool true]) ?_ rfl ⟨rfl, HK.out⟩
 exact results_row_tmp (by rfl) _ _ ⟨w.heap.size, 0, none⟩ _ _ (by rfl) (by rfl) (run_loadVar_row _ w.heap.size 89 89 _ (0, 0) _ HX.out Tryz.underlying89 rfl size27b)
set_option maxHeartbeats 4000000 in
theorem rof_37 (w : World) : Calls Tryz.prog 33 #[.int .i64 37] w fun e w' => e = .returned (.tuple #[.agg (insL.getD 37 Sh.none).cells.toArray, .bool true]) ∧ Kept (fun _ => False) w w' := by
 have hX := heap_alloc2_old w (.cells (insL.getD 37 Sh.none).cells.toArray 89) (.cells (insL.getD 37 Sh.none).cells.toArray 89)
 have hK := ((Kept.refl (fun _ => False) w).alloc (.cells (insL.getD 37 Sh.none).cells.toArray 89)).alloc (.cells (insL.getD 37 Sh.none).cells.toArray 89)
 have HX := hid_of hX
 have HK := hid_of hK
 clear hX hK
 go_enter Tryz.func33, Tryz.ntmps33
 go_wp2_with fail
 refine (word_is _ 37 (insL.getD 37 Sh.none).nm _ (by decide +kernel) (by decide) (by kernel_rfl)).mono ?_
 rintro e w1 ⟨rfl, rfl⟩
 rw [show (insL.getD 37 Sh.none).nm = _ from rfl]
 go_wp2_with fail
 refine (operand_ref _ 37 (by decide)).mono ?_
 rintro e w2 ⟨rfl, rfl⟩
 rw [show ((kix 37 : Nat) : Int) = 0 from by kernel_rfl]
 go_wp2
 refine bodyPost_ret (v := .tuple #[.agg (insL.getD 37 Sh.none).cells.toArray, .bool true]) ?_ rfl ⟨rfl, HK.out⟩
 exact results_row_tmp (by rfl) _ _ ⟨w.heap.size, 0, none⟩ _ _ (by rfl) (by rfl) (run_loadVar_row _ w.heap.size 89 89 _ (0, 0) _ HX.out Tryz.underlying89 rfl size27b)
set_option maxHeartbeats 4000000 in
theorem rof_38 (w : World) : Calls Tryz.prog 33 #[.int .i64 38] w fun e w' => e = .returned (.tuple #[.agg (insL.getD 38 Sh.none).cells.toArray, .bool true]) ∧ Kept (fun _ => False) w w' := by
 have hX := heap_alloc2_old w (.cells (insL.getD 38 Sh.none).cells.toArray 89) (.cells (insL.getD 38 Sh.none).cells.toArray 89)
 have hK := ((Kept.refl (fun _ => False) w).alloc (.cells (insL.getD 38 Sh.none).cells.toArray 89)).alloc (.cells (insL.getD 38 Sh.none).cells.toArray 89)
 have HX := hid_of hX
 have HK := hid_of hK
 clear hX hK
 go_enter Tryz.func33, Tryz.ntmps33
 go_wp2_with fail
 refine (word_is _ 38 (insL.getD 38 Sh.none).nm _ (by decide +kernel) (by decide) (by kernel_rfl)).mono ?_
 rintro e w1 ⟨rfl, rfl⟩
 rw [show (insL.getD 38 Sh.none).nm = _ from rfl]
 go_wp2_with fail
 refine (operand_ref _ 38 (by decide)).mono ?_
 rintro e w2 ⟨rfl, rfl⟩
 rw [show ((kix 38 : Nat) : Int) = 0 from by kernel_rfl]
 go_wp2
 refine bodyPost_ret (v := .tuple #[.agg (insL.getD 38 Sh.none).cells.toArray, .bool true]) ?_ rfl ⟨rfl, HK.out⟩
 exact results_row_tmp (by rfl) _ _ ⟨w.heap.size, 0, none⟩ _ _ (by rfl) (by rfl) (run_loadVar_row _ w.heap.size 89 89 _ (0, 0) _ HX.out Tryz.underlying89 rfl size27b)
set_option maxHeartbeats 4000000 in
theorem rof_39 (w : World) : Calls Tryz.prog 33 #[.int .i64 39] w fun e w' => e = .returned (.tuple #[.agg (insL.getD 39 Sh.none).cells.toArray, .bool true]) ∧ Kept (fun _ => False) w w' := by
 have hX := heap_alloc2_old w (.cells (insL.getD 39 Sh.none).cells.toArray 89) (.cells (insL.getD 39 Sh.none).cells.toArray 89)
 have hK := ((Kept.refl (fun _ => False) w).alloc (.cells (insL.getD 39 Sh.none).cells.toArray 89)).alloc (.cells (insL.getD 39 Sh.none).cells.toArray 89)
 have HX := hid_of hX
 have HK := hid_of hK
 clear hX hK
 go_enter Tryz.func33, Tryz.ntmps33
 go_wp2_with fail
 refine (word_is _ 39 (insL.getD 39 Sh.none).nm _ (by decide +kernel) (by decide) (by kernel_rfl)).mono ?_
 rintro e w1 ⟨rfl, rfl⟩
 rw [show (insL.getD 39 Sh.none).nm = _ from rfl]
 go_wp2_with fail
 refine (operand_ref _ 39 (by decide)).mono ?_
 rintro e w2 ⟨rfl, rfl⟩
 rw [show ((kix 39 : Nat) : Int) = 0 from by kernel_rfl]
 go_wp2
 refine bodyPost_ret (v := .tuple #[.agg (insL.getD 39 Sh.none).cells.toArray, .bool true]) ?_ rfl ⟨rfl, HK.out⟩
 exact results_row_tmp (by rfl) _ _ ⟨w.heap.size, 0, none⟩ _ _ (by rfl) (by rfl) (run_loadVar_row _ w.heap.size 89 89 _ (0, 0) _ HX.out Tryz.underlying89 rfl size27b)
set_option maxHeartbeats 4000000 in
theorem rof_40 (w : World) : Calls Tryz.prog 33 #[.int .i64 40] w fun e w' => e = .returned (.tuple #[.agg (insL.getD 40 Sh.none).cells.toArray, .bool true]) ∧ Kept (fun _ => False) w w' := by
 have hX := heap_alloc2_old w (.cells (insL.getD 40 Sh.none).cells.toArray 89) (.cells (insL.getD 40 Sh.none).cells.toArray 89)
 have hK := ((Kept.refl (fun _ => False) w).alloc (.cells (insL.getD 40 Sh.none).cells.toArray 89)).alloc (.cells (insL.getD 40 Sh.none).cells.toArray 89)
 have HX := hid_of hX
 have HK := hid_of hK
 clear hX hK
 go_enter Tryz.func33, Tryz.ntmps33
 go_wp2_with fail
 refine (word_is _ 40 (insL.getD 40 Sh.none).nm _ (by decide +kernel) (by decide) (by kernel_rfl)).mono ?_
 rintro e w1 ⟨rfl, rfl⟩
 rw [show (insL.getD 40 Sh.none).nm = _ from rfl]
 go_wp2_with fail
 refine (operand_ref _ 40 (by decide)).mono ?_
 rintro e w2 ⟨rfl, rfl⟩
 rw [show ((kix 40 : Nat) : Int) = 0 from by kernel_rfl]
 go_wp2
 refine bodyPost_ret (v := .tuple #[.agg (insL.getD 40 Sh.none).cells.toArray, .bool true]) ?_ rfl ⟨rfl, HK.out⟩
 exact results_row_tmp (by rfl) _ _ ⟨w.heap.size, 0, none⟩ _ _ (by rfl) (by rfl) (run_loadVar_row _ w.heap.size 89 89 _ (0, 0) _ HX.out Tryz.underlying89 rfl size27b)
set_option maxHeartbeats 4000000 in
theorem rof_41 (w : World) : Calls Tryz.prog 33 #[.int .i64 41] w fun e w' => e = .returned (.tuple #[.agg (insL.getD 41 Sh.none).cells.toArray, .bool true]) ∧ Kept (fun _ => False) w w' := by
 have hX := heap_alloc2_old w (.cells (insL.getD 41 Sh.none).cells.toArray 89) (.cells (insL.getD 41 Sh.none).cells.toArray 89)
 have hK := ((Kept.refl (fun _ => False) w).alloc (.cells (insL.getD 41 Sh.none).cells.toArray 89)).alloc (.cells (insL.getD 41 Sh.none).cells.toArray 89)
 have HX := hid_of hX
 have HK := hid_of hK
 clear hX hK
 go_enter Tryz.func33, Tryz.ntmps33
 go_wp2_with fail
 refine (word_is _ 41 (insL.getD 41 Sh.none).nm _ (by decide +kernel) (by decide) (by kernel_rfl)).mono ?_
 rintro e w1 ⟨rfl, rfl⟩
 rw [show (insL.getD 41 Sh.none).nm = _ from rfl]
 go_wp2_with fail
 refine (operand_ref _ 41 (by decide)).mono ?_
 rintro e w2 ⟨rfl, rfl⟩
 rw [show ((kix 41 : Nat) : Int) = 0 from by kernel_rfl]
 go_wp2
 refine bodyPost_ret (v := .tuple #[.agg (insL.getD 41 Sh.none).cells.toArray, .bool true]) ?_ rfl ⟨rfl, HK.out⟩
 exact results_row_tmp (by rfl) _ _ ⟨w.heap.size, 0, none⟩ _ _ (by rfl) (by rfl) (run_loadVar_row _ w.heap.size 89 89 _ (0, 0) _ HX.out Tryz.underlying89 rfl size27b)
set_option maxHeartbeats 4000000 in
theorem rof_42 (w : World) : Calls Tryz.prog 33 #[.int .i64 42] w fun e w' => e = .returned (.tuple #[.agg (insL.getD 42 Sh.none).cells.toArray, .bool true]) ∧ Kept (fun _ => False) w w' := by
 have hX := heap_alloc2_old w (.cells (insL.getD 42 Sh.none).cells.toArray 89) (.cells (insL.getD 42 Sh.none).cells.toArray 89)
 have hK := ((Kept.refl (fun _ => False) w).alloc (.cells (insL.getD 42 Sh.none).cells.toArray 89)).alloc (.cells (insL.getD 42 Sh.none).cells.toArray 89)
 have HX := hid_of hX
 have HK := hid_of hK
 clear hX hK
 go_enter Tryz.func33, Tryz.ntmps33
 go_wp2_with fail
 refine (word_is _ 42 (insL.getD 42 Sh.none).nm _ (by decide +kernel) (by decide) (by kernel_rfl)).mono ?_
 rintro e w1 ⟨rfl, rfl⟩
 rw [show (insL.getD 42 Sh.none).nm = _ from rfl]
 go_wp2_with fail
 refine (operand_ref _ 42 (by decide)).mono ?_
 rintro e w2 ⟨rfl, rfl⟩
 rw [show ((kix 42 : Nat) : Int) = 0 from by kernel_rfl]
 go_wp2
 refine bodyPost_ret (v := .tuple #[.agg (insL.getD 42 Sh.none).cells.toArray, .bool true]) ?_ rfl ⟨rfl, HK.out⟩
 exact results_row_tmp (by rfl) _ _ ⟨w.heap.size, 0, none⟩ _ _ (by rfl) (by rfl) (run_loadVar_row _ w.heap.size 89 89 _ (0, 0) _ HX.out Tryz.underlying89 rfl size27b)
set_option maxHeartbeats 4000000 in
theorem rof_43 (w : World) : Calls Tryz.prog 33 #[.int .i64 43] w fun e w' => e = .returned (.tuple #[.agg (insL.getD 43 Sh.none).cells.toArray, .bool true]) ∧ Kept (fun _ => False) w w' := by
 have hX := heap_alloc2_old w (.cells (insL.getD 43 Sh.none).cells.toArray 89) (.cells (insL.getD 43 Sh.none).cells.toArray 89)
 have hK := ((Kept.refl (fun _ => False) w).alloc (.cells (insL.getD 43 Sh.none).cells.toArray 89)).alloc (.cells (insL.getD 43 Sh.none).cells.toArray 89)
 have HX := hid_of hX
 have HK := hid_of hK
 clear hX hK
 go_enter Tryz.func33, Tryz.ntmps33
 go_wp2_with fail
 refine (word_is _ 43 (insL.getD 43 Sh.none).nm _ (by decide +kernel) (by decide) (by kernel_rfl)).mono ?_
 rintro e w1 ⟨rfl, rfl⟩
 rw [show (insL.getD 43 Sh.none).nm = _ from rfl]
 go_wp2_with fail
 refine (operand_ref _ 43 (by decide)).mono ?_
 rintro e w2 ⟨rfl, rfl⟩
 rw [show ((kix 43 : Nat) : Int) = 0 from by kernel_rfl]
 go_wp2
 refine bodyPost_ret (v := .tuple #[.agg (insL.getD 43 Sh.none).cells.toArray, .bool true]) ?_ rfl ⟨rfl, HK.out⟩
 exact results_row_tmp (by rfl) _ _ ⟨w.heap.size, 0, none⟩ _ _ (by rfl) (by rfl) (run_loadVar_row _ w.heap.size 89 89 _ (0, 0) _ HX.out Tryz.underlying89 rfl size27b)
set_option maxHeartbeats 4000000 in
theorem rof_44 (w : World) : Calls Tryz.prog 33 #[.int .i64 44] w fun e w' => e = .returned (.tuple #[.agg (insL.getD 44 Sh.none).cells.toArray, .bool true]) ∧ Kept (fun _ => False) w w' := by
 have hX := heap_alloc2_old w (.cells (insL.getD 44 Sh.none).cells.toArray 89) (.cells (insL.getD 44 Sh.none).cells.toArray 89)
 have hK := ((Kept.refl (fun _ => False) w).alloc (.cells (insL.getD 44 Sh.none).cells.toArray 89)).alloc (.cells (insL.getD 44 Sh.none).cells.toArray 89)
 have HX := hid_of hX
 have HK := hid_of hK
 clear hX hK
 go_enter Tryz.func33, Tryz.ntmps33
 go_wp2_with fail
 refine (word_is _ 44 (insL.getD 44 Sh.none).nm _ (by decide +kernel) (by decide) (by kernel_rfl)).mono ?_
 rintro e w1 ⟨rfl, rfl⟩
 rw [show (insL.getD 44 Sh.none).nm = _ from rfl]
 go_wp2_with fail
 refine (operand_ref _ 44 (by decide)).mono ?_
 rintro e w2 ⟨rfl, rfl⟩
 rw [show ((kix 44 : Nat) : Int) = 0 from by kernel_rfl]
 go_wp2
 refine bodyPost_ret (v := .tuple #[.agg (insL.getD 44 Sh.none).cells.toArray, .bool true]) ?_ rfl ⟨rfl, HK.out⟩
 exact results_row_tmp (by rfl) _ _ ⟨w.heap.size, 0, none⟩ _ _ (by rfl) (by rfl) (run_loadVar_row _ w.heap.size 89 89 _ (0, 0) _ HX.out Tryz.underlying89 rfl size27b)
set_option maxHeartbeats 4000000 in
theorem rof_45 (w : World) : Calls Tryz.prog 33 #[.int .i64 45] w fun e w' => e = .returned (.tuple #[.agg (insL.getD 45 Sh.none).cells.toArray, .bool true]) ∧ Kept (fun _ => False) w w' := by
 have hX := heap_alloc2_old w (.cells (insL.getD 45 Sh.none).cells.toArray 89) (.cells (insL.getD 45 Sh.none).cells.toArray 89)
 have hK := ((Kept.refl (fun _ => False) w).alloc (.cells (insL.getD 45 Sh.none).cells.toArray 89)).alloc (.cells (insL.getD 45 Sh.none).cells.toArray 89)
 have HX := hid_of hX
 have HK := hid_of hK
 clear hX hK
 go_enter Tryz.func33, Tryz.ntmps33
 go_wp2_with fail
 refine (word_is _ 45 (insL.getD 45 Sh.none).nm _ (by decide +kernel) (by decide) (by kernel_rfl)).mono ?_
 rintro e w1 ⟨rfl, rfl⟩
 rw [show (insL.getD 45 Sh.none).nm = _ from rfl]
 go_wp2_with fail
 refine (operand_ref _ 45 (by decide)).mono ?_
 rintro e w2 ⟨rfl, rfl⟩
 rw [show ((kix 45 : Nat) : Int) = 0 from by kernel_rfl]
 go_wp2
 refine bodyPost_ret (v := .tuple #[.agg (insL.getD 45 Sh.none).cells.toArray, .bool true]) ?_ rfl ⟨rfl, HK.out⟩
 exact results_row_tmp (by rfl) _ _ ⟨w.heap.size, 0, none⟩ _ _ (by rfl) (by rfl) (run_loadVar_row _ w.heap.size 89 89 _ (0, 0) _ HX.out Tryz.underlying89 rfl size27b)
theorem rof_all (w : World) : ∀ k : Nat, k < 46 → Calls Tryz.prog 33 #[.int .i64 (k : Int)] w fun e w' => e = .returned (.tuple #[.agg (insL.getD k Sh.none).cells.toArray, .bool true]) ∧ Kept (fun _ => False) w w'
 | 0, _ => rof_0 w
 | 1, _ => rof_1 w
 | 2, _ => rof_2 w
 | 3, _ => rof_3 w
 | 4, _ => rof_4 w
 | 5, _ => rof_5 w
 | 6, _ => rof_6 w
 | 7, _ => rof_7 w
 | 8, _ => rof_8 w
 | 9, _ => rof_9 w
 | 10, _ => rof_10 w
 | 11, _ => rof_11 w
 | 12, _ => rof_12 w
 | 13, _ => rof_13 w
 | 14, _ => rof_14 w
 | 15, _ => rof_15 w
 | 16, _ => rof_16 w
 | 17, _ => rof_17 w
 | 18, _ => rof_18 w
 | 19, _ => rof_19 w
 | 20, _ => rof_20 w
 | 21, _ => rof_21 w
 | 22, _ => rof_22 w
 | 23, _ => rof_23 w
 | 24, _ => rof_24 w
 | 25, _ => rof_25 w
 | 26, _ => rof_26 w
 | 27, _ => rof_27 w
 | 28, _ => rof_28 w
 | 29, _ => rof_29 w
 | 30, _ => rof_30 w
 | 31, _ => rof_31 w
 | 32, _ => rof_32 w
 | 33, _ => rof_33 w
 | 34, _ => rof_34 w
 | 35, _ => rof_35 w
 | 36, _ => rof_36 w
 | 37, _ => rof_37 w
 | 38, _ => rof_38 w
 | 39, _ => rof_39 w
 | 40, _ => rof_40 w
 | 41, _ => rof_41 w
 | 42, _ => rof_42 w
 | 43, _ => rof_43 w
 | 44, _ => rof_44 w
 | 45, _ => rof_45 w
 | k + 46, h => absurd h (by omega)
set_option maxHeartbeats 4000000 in
theorem rof_out (n : Int) (w : World) (h : ¬ (0 ≤ n ∧ n < 46)) (hn0 : -9223372036854775808 ≤ n) (hn1 : n < 9223372036854775808) : Calls Tryz.prog 33 #[.int .i64 n] w fun e w' => e = .returned (.tuple #[.agg Sh.none.cells.toArray, .bool false]) ∧ Kept (fun _ => False) w w' := by
 have HX := hid_of (heap_alloc_new w (.cells Sh.none.cells.toArray 89))
 have HK := hid_of ((Kept.refl (fun _ => False) w).alloc (.cells Sh.none.cells.toArray 89))
 have hd : (decide (n < 0) || decide ((46 : Int) ≤ n)) = true := by
  rw [Bool.or_eq_true, decide_eq_true_iff, decide_eq_true_iff]
  omega
 clear h
 go_enter Tryz.func33, Tryz.ntmps33
 go_wp2
 all_goals
  refine bodyPost_ret (v := .tuple #[.agg Sh.none.cells.toArray, .bool false]) ?_ rfl ⟨rfl, HK.out⟩
  exact results_row_tmp (by rfl) _ _ ⟨w.heap.size, 0, none⟩ _ _ (by rfl) (by rfl) (run_loadVar_row _ w.heap.size 89 89 _ (0, 0) _ HX.out Tryz.underlying89 rfl size27)
theorem of_ref (n : Int) (w : World) (hn0 : -9223372036854775808 ≤ n) (hn1 : n < 9223372036854775808) :
  Calls Tryz.prog 33 #[.int .i64 n] w fun e w' => e = .returned (.tuple #[.agg (rowS insL n).cells.toArray, .bool (isRow insL n)]) ∧ Kept (fun _ => False) w w' := by
 by_cases h : 0 ≤ n ∧ n < 46
 ·obtain ⟨k, rfl⟩ : ∃ k : Nat, n = k := ⟨n.toNat, by omega⟩
  have hk : k < 46 := by omega
  rw [(row_at (L := insL) hk).1, (row_at (L := insL) hk).2]
  exact rof_all w k hk
 ·rw [show rowS insL n = Sh.none from if_neg h, show isRow insL n = false from decide_eq_false h]
  exact rof_out n w h hn0 hn1
def namesS : ByteArray := ⟨#[110, 111, 112, 32, 104, 97, 108, 116, 32, 97, 98, 111, 114, 116, 32, 110, 117, 109, 32, 112, 111, 112, 32, 99, 111, 112, 121, 32, 115, 119, 97, 112, 32, 103, 101, 116, 32, 115, 101, 116, 32, 108, 111, 97, 100, 32, 115, 116, 111, 114, 101, 32, 108, 111, 97, 100, 56, 32, 115, 116, 111, 114, 101, 56, 32, 115, 105, 122, 101, 32, 106, 117, 109, 112, 32, 122, 101, 114, 111, 32, 110, 111, 116, 122, 101, 114, 111, 32, 99, 97, 108, 108, 32, 114, 101, 116, 32, 115, 121, 115, 32, 97, 100, 100, 32, 115, 117, 98, 32, 109, 117, 108, 32, 100, 105, 118, 32, 114, 101, 109, 32, 97, 110, 100, 32, 111, 114, 32, 120, 111, 114, 32, 115, 104, 108, 32, 115, 104, 114, 32, 117, 115, 104, 114, 32, 101, 113, 32, 108, 116, 32, 117, 108, 116, 32, 110, 101, 103, 32, 110, 111, 116, 32, 102, 97, 100, 100, 32, 102, 115, 117, 98, 32, 102, 109, 117, 108, 32, 102, 100, 105, 118, 32, 102, 101, 113, 32, 102, 108, 116, 32, 102, 110, 101, 103, 32, 102, 114, 111, 111, 116, 32, 116, 111, 102, 32, 116, 111, 105, 32]⟩
def callsS : ByteArray := ⟨#[111, 112, 101, 110, 32, 114, 101, 97, 100, 32, 119, 114, 105, 116, 101, 32, 108, 105, 115, 116, 32, 99, 108, 111, 115, 101, 32]⟩
set_option maxHeartbeats 4000000 in
theorem sysname_any (s : ByteArray) (w : World) :
  Calls Tryz.prog 117 #[.string s] w fun e w' => e = .returned (namedV sysL s) ∧ Kept (fun _ => False) w w' := by
 go_enter Tryz.func117, Tryz.ntmps117
 go_wp2_with fail
 refine (sys_any _).mono ?_
 rintro e w1 ⟨rfl, hk1⟩
 have HK1 := hid_of hk1
 clear hk1
 obtain ⟨hO, hX, hK⟩ := new_row w1 z63 (tcells sysL).toArray 214
 go_upto_region 2 with (first | refine wpList_to rfl (some 4) rfl (.pointer (some ⟨w1.heap.size, 0, none⟩)) (w1.alloc (.cells z63 214)) (by kernel_rfl) ?_ | refine wpList_store_row rfl 214 _ _ rfl w1.heap.size (tcells sysL).toArray rfl rfl 214 _ hO size63 (by kernel_rfl) one63 ?_)
 clear hO
 generalize (w1.alloc (.cells z63 214)).setRow w1.heap.size (tcells sysL).toArray = w2 at *
 have HK2 := hid_of (HK1.out.trans hK)
 have HR := hid_of (named_any sysL w1.heap.size 214 s w2 hX (by decide))
 clear hK HK1
 go_wp2_with fail
 refine HR.out.mono ?_
 rintro e w3 ⟨rfl, hk3⟩
 have HK3 := hid_of (HK2.out.trans hk3)
 clear hk3 HR HK2 hX
 by_cases h : nameIx sysL s < sysL.length
 ·have HV := hid_of (show namedV sysL s = _ from if_pos h)
  rw [HV.out]
  generalize nameIx sysL s = k at *
  clear h
  go_wp2
  go_ret2
  exact ⟨congrArg Ending.returned HV.out.symm, HK3.out⟩
 ·have HV := hid_of (show namedV sysL s = _ from if_neg h)
  rw [HV.out]
  clear h
  go_wp2
  go_ret2
  exact ⟨congrArg Ending.returned HV.out.symm, HK3.out⟩
set_option maxHeartbeats 4000000 in
theorem byname_ref (s : ByteArray) (w : World) : Calls Tryz.prog 65 #[.string s] w fun e w' => e = .returned (namedV insL s) ∧ w' = w := by
 have HW : Hid (∀ k, k < 46 → wordP namesS k = (insL.getD k Sh.none).nm) := by
  intro k hk
  revert k
  decide +kernel
 go_enter Tryz.func65, Tryz.ntmps65
 go_wp2
 go_loopw [4] (fun i wr => ∃ k : Nat, k ≤ 46 ∧ i = .int .i64 (k : Int) ∧ (∀ j, j < k → (insL.getD j Sh.none).nm ≠ s) ∧ wr = w) (fun i _ => 46 - (intOf i).toNat)
 case atStart => exact ⟨0, by omega, rfl, fun j hj => absurd hj (by omega), rfl⟩
 case round =>
  obtain ⟨k, hk, rfl, hno, rfl⟩ := hrel
  by_cases hlt : k < 46
  ·have hki : (k : Int) < 46 := by omega
   have HAT : Hid ((insL.getD k Sh.none).nm = s → namedV insL s = .tuple #[.int .i64 (k : Nat), .bool true]) := fun h => named_at (show k < insL.length from hlt) hno h
   have HNO := hid_of hno
   have HX : Hid (∀ v, (insL.getD k Sh.none).nm = v → (insL.getD k Sh.none).nm = v) := fun v h => h
   clear hno
   go_wp2_with fail
   refine (word_is _ k (insL.getD k Sh.none).nm _ (by decide +kernel) (by omega) (HW.out k hlt)).mono ?_
   rintro e w1 ⟨rfl, rfl⟩
   obtain ⟨x, hx⟩ : ∃ x, (insL.getD k Sh.none).nm = x := ⟨_, rfl⟩
   rw [hx]
   rw [hx] at HAT
   have HXX := hid_of hx
   clear hx HX HW
   go_wp2
   ·have HQ := hid_of (HAT.out (txt_eq (by assumption)))
    go_ret2
    exact ⟨congrArg Ending.returned HQ.out.symm, rfl⟩
   ·rename_i hne
    refine ⟨⟨k + 1, by omega, by go_num, fun j hj => ?_, trivial⟩, by simp [intOf]; omega⟩
    by_cases e : j = k
    ·subst e
     rw [HXX.out]
     exact txt_ne hne
    ·exact HNO.out j (by omega)
  ·have hki : (46 : Int) ≤ (k : Int) := by omega
   have HV := hid_of (named_none (L := insL) (s := s) (fun j hj => hno j (by have : insL.length = 46 := rfl; omega)))
   clear hno hk hlt
   go_wp2
   go_ret2
   exact ⟨congrArg Ending.returned HV.out.symm, rfl⟩
set_option maxHeartbeats 4000000 in
theorem sysname_ref (s : ByteArray) (w : World) : Calls Tryz.prog 66 #[.string s] w fun e w' => e = .returned (namedV sysL s) ∧ w' = w := by
 have HW : Hid (∀ k, k < 5 → wordP callsS k = (sysL.getD k Sh.none).nm) := by
  intro k hk
  revert k
  decide +kernel
 go_enter Tryz.func66, Tryz.ntmps66
 go_wp2
 go_loopw [4] (fun i wr => ∃ k : Nat, k ≤ 5 ∧ i = .int .i64 (k : Int) ∧ (∀ j, j < k → (sysL.getD j Sh.none).nm ≠ s) ∧ wr = w) (fun i _ => 5 - (intOf i).toNat)
 case atStart => exact ⟨0, by omega, rfl, fun j hj => absurd hj (by omega), rfl⟩
 case round =>
  obtain ⟨k, hk, rfl, hno, rfl⟩ := hrel
  by_cases hlt : k < 5
  ·have hki : (k : Int) < 5 := by omega
   have HAT : Hid ((sysL.getD k Sh.none).nm = s → namedV sysL s = .tuple #[.int .i64 (k : Nat), .bool true]) := fun h => named_at (show k < sysL.length from hlt) hno h
   have HNO := hid_of hno
   have HX : Hid (∀ v, (sysL.getD k Sh.none).nm = v → (sysL.getD k Sh.none).nm = v) := fun v h => h
   clear hno
   go_wp2_with fail
   refine (word_is _ k (sysL.getD k Sh.none).nm _ (by decide +kernel) (by omega) (HW.out k hlt)).mono ?_
   rintro e w1 ⟨rfl, rfl⟩
   obtain ⟨x, hx⟩ : ∃ x, (sysL.getD k Sh.none).nm = x := ⟨_, rfl⟩
   rw [hx]
   rw [hx] at HAT
   have HXX := hid_of hx
   clear hx HX HW
   go_wp2
   ·have HQ := hid_of (HAT.out (txt_eq (by assumption)))
    go_ret2
    exact ⟨congrArg Ending.returned HQ.out.symm, rfl⟩
   ·rename_i hne
    refine ⟨⟨k + 1, by omega, by go_num, fun j hj => ?_, trivial⟩, by simp [intOf]; omega⟩
    by_cases e : j = k
    ·subst e
     rw [HXX.out]
     exact txt_ne hne
    ·exact HNO.out j (by omega)
  ·have hki : (5 : Int) ≤ (k : Int) := by omega
   have HV := hid_of (named_none (L := sysL) (s := s) (fun j hj => hno j (by have : sysL.length = 5 := rfl; omega)))
   clear hno hk hlt
   go_wp2
   go_ret2
   exact ⟨congrArg Ending.returned HV.out.symm, rfl⟩
end Go.Proofs.YtgoabnehdmdikaaGreatDoor

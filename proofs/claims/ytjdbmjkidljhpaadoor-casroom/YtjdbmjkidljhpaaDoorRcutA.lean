/-
  Cut of the reference.
-/
import Derived.Test.YtjdbmjkidljhpaaDoorCutA
namespace Go.Proofs.YtjdbmjkidljhpaaDoor
open Go.RowKit
set_option linter.unusedVariables false
set_option maxRecDepth 100000
set_option linter.unusedSimpArgs false

theorem size31 : (Tryd.prog.info? 57).map (·.size) = some 32 := by kernel_rfl

set_option maxRecDepth 100000 in
set_option maxHeartbeats 1000000 in
theorem rcut_bad (d : List Int) (width : Int) (hl : d.length = 32) (hw : width < 1 ∨ 32 < width) (w : World) :
    Calls Tryd.prog 40 #[.agg (d.map (Value.int .u8)).toArray, .int .i64 width] w fun e w' => e = .returned (.tuple #[.agg (zeros32.map (Value.int .u8)).toArray, .int .i64 3]) ∧ Kept (fun _ => False) w w' := by
  have h1 := oneCells .u8 zeros32
  have hz28 : (Tryd.prog.info? 57).map (·.size) = some (zeros32.map (Value.int .u8)).toArray.size := by simp [size31, zeros32]
  generalize (d.map (Value.int .u8)).toArray = cs at *
  by_cases hw1 : width < 1
  · clear hw
    go_enter Tryd.func40, Tryd.ntmps40
    go_wp2_with (refine wpList_store_row rfl 57 _ _ rfl (w.heap.size + 1) (zeros32.map (Value.int .u8)).toArray rfl rfl 57 _ (alloc_new _ _ (by simp)) hz28 rfl h1 ?_; rw [setRow_new _ _ _ _ (by simp)])
    try simp only [Act.put]
    refine bodyPost_ret (v := .tuple #[.agg (zeros32.map (Value.int .u8)).toArray, .int .i64 3]) ?_ rfl ⟨rfl, ((Kept.refl _ w).alloc _).alloc _⟩
    exact results_row_tmp (fn := Tryd.f40) (p := 4) (u := 5) (by rfl) _ _ (w.heap.size + 1) 57 (zeros32.map (Value.int .u8)).toArray (0, 0) _ (by rfl) (alloc_new _ _ (by simp)) Tryd.underlying57 rfl hz28
  · have hw2 : 32 < width := by omega
    have hw3 : 1 ≤ width := by omega
    clear hw hw1
    go_enter Tryd.func40, Tryd.ntmps40
    go_wp2_with (refine wpList_store_row rfl 57 _ _ rfl (w.heap.size + 1) (zeros32.map (Value.int .u8)).toArray rfl rfl 57 _ (alloc_new _ _ (by simp)) hz28 rfl h1 ?_; rw [setRow_new _ _ _ _ (by simp)])
    try simp only [Act.put]
    refine bodyPost_ret (v := .tuple #[.agg (zeros32.map (Value.int .u8)).toArray, .int .i64 3]) ?_ rfl ⟨rfl, ((Kept.refl _ w).alloc _).alloc _⟩
    exact results_row_tmp (fn := Tryd.f40) (p := 4) (u := 5) (by rfl) _ _ (w.heap.size + 1) 57 (zeros32.map (Value.int .u8)).toArray (0, 0) _ (by rfl) (alloc_new _ _ (by simp)) Tryd.underlying57 rfl hz28
end Go.Proofs.YtjdbmjkidljhpaaDoor

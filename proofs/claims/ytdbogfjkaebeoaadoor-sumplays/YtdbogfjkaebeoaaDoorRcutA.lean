/-
  Cut of the reference.
-/
import Derived.Test.YtdbogfjkaebeoaaDoorCutA
namespace Go.Proofs.YtdbogfjkaebeoaaDoor
open Go.RowKit
set_option linter.unusedVariables false
set_option linter.unusedSimpArgs false

theorem size31 : (Tryd.prog.info? 31).map (·.size) = some 32 := by kernel_rfl

set_option maxRecDepth 100000 in
set_option maxHeartbeats 1000000 in
theorem rcut_bad (d : List Int) (width : Int) (hl : d.length = 32) (hw : width < 1 ∨ 32 < width) (w : World) :
    Calls Tryd.prog 24 #[.agg (d.map (Value.int .u8)).toArray, .int .i64 width] w fun e w' => e = .returned (.tuple #[.agg (zeros32.map (Value.int .u8)).toArray, .int .i64 3]) ∧ Kept (fun _ => False) w w' := by
  have h1 := oneCells .u8 zeros32
  have hz28 : (Tryd.prog.info? 31).map (·.size) = some (zeros32.map (Value.int .u8)).toArray.size := by simp [size31, zeros32]
  generalize (d.map (Value.int .u8)).toArray = cs at *
  by_cases hw1 : width < 1
  · clear hw
    go_enter Tryd.func24, Tryd.ntmps24
    go_wp2_with (refine wpList_store_row rfl 31 _ _ rfl (w.heap.size + 1) (zeros32.map (Value.int .u8)).toArray rfl rfl 31 _ (alloc_new _ _ (by simp)) hz28 rfl h1 ?_; rw [setRow_new _ _ _ _ (by simp)])
    try simp only [Act.put]
    refine bodyPost_ret (v := .tuple #[.agg (zeros32.map (Value.int .u8)).toArray, .int .i64 3]) ?_ rfl ⟨rfl, ((Kept.refl _ w).alloc _).alloc _⟩
    exact results_row_tmp (fn := Tryd.f24) (p := 4) (u := 5) (by rfl) _ _ (w.heap.size + 1) 31 (zeros32.map (Value.int .u8)).toArray (0, 0) _ (by rfl) (alloc_new _ _ (by simp)) Tryd.underlying31 rfl hz28
  · have hw2 : 32 < width := by omega
    have hw3 : 1 ≤ width := by omega
    clear hw hw1
    go_enter Tryd.func24, Tryd.ntmps24
    go_wp2_with (refine wpList_store_row rfl 31 _ _ rfl (w.heap.size + 1) (zeros32.map (Value.int .u8)).toArray rfl rfl 31 _ (alloc_new _ _ (by simp)) hz28 rfl h1 ?_; rw [setRow_new _ _ _ _ (by simp)])
    try simp only [Act.put]
    refine bodyPost_ret (v := .tuple #[.agg (zeros32.map (Value.int .u8)).toArray, .int .i64 3]) ?_ rfl ⟨rfl, ((Kept.refl _ w).alloc _).alloc _⟩
    exact results_row_tmp (fn := Tryd.f24) (p := 4) (u := 5) (by rfl) _ _ (w.heap.size + 1) 31 (zeros32.map (Value.int .u8)).toArray (0, 0) _ (by rfl) (alloc_new _ _ (by simp)) Tryd.underlying31 rfl hz28
end Go.Proofs.YtdbogfjkaebeoaaDoor

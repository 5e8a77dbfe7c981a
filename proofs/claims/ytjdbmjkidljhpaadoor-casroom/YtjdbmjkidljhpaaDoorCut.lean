/-
  Cut, of the program and of the reference, where the width is one.
-/
import Derived.Test.YtjdbmjkidljhpaaDoorCutA
namespace Go.Proofs.YtjdbmjkidljhpaaDoor
open Go.RowKit
set_option linter.unusedVariables false
set_option maxRecDepth 100000
set_option linter.unusedSimpArgs false

set_option maxRecDepth 100000 in
set_option maxHeartbeats 1000000 in
theorem cut_ok (d : List Int) (k : Nat) (hl : d.length = 32) (h1 : 1 ≤ k) (h2 : k ≤ 32) (w : World) :
    Calls Tryd.prog 38 #[.agg (d.map (Value.int .u8)).toArray, .int .i64 (k : Int)] w fun e w' => e = .returned (.tuple #[.agg ((cutL d k).map (Value.int .u8)).toArray, .int .i64 0]) ∧ Kept (fun _ => False) w w' := by
  have hone := oneCells .u8 (cutL d k)
  have hcl := cutL_length d k hl h2
  have hs28 : (Tryd.prog.info? 28).map (·.size) = some ((cutL d k).map (Value.int .u8)).toArray.size := by simp [size28, hcl]
  have hos : 32 = ((cutL d k).map (Value.int .u8)).toArray.size := by simp [hcl]
  have hkI : ¬ (k : Int) < 1 := by omega
  have hkJ : ¬ 32 < (k : Int) := by omega
  by_cases h32 : k < 32
  · have hsl := fun W => run_tail28 W w.heap.size k h32
    have hcc := clear_cells d k hl h2
    have hclr : ∀ o : Obj, (Builtin.clear_ #[26] 0 #[.slice (some ⟨w.heap.size, k, none⟩) (32 - k) (32 - k)]).run Tryd.prog ((w.alloc (.cells (d.map (Value.int .u8)).toArray 28)).alloc o) = .ok (.tuple #[]) (((w.alloc (.cells (d.map (Value.int .u8)).toArray 28)).alloc o).setRow w.heap.size ((cutL d k).map (Value.int .u8)).toArray) := fun o => by
      rw [← hcc]
      exact run_clear_row _ w.heap.size k (32 - k) (32 - k) 0 _ 28 (alloc_old (alloc_new _ _ rfl)) (by omega) (by simp [hl]; omega)
    have hB := setRow_heap ((w.alloc (.cells (d.map (Value.int .u8)).toArray 28)).alloc (.cells #[.int .u8 0, .int .u8 0, .int .u8 0, .int .u8 0, .int .u8 0, .int .u8 0, .int .u8 0, .int .u8 0, .int .u8 0, .int .u8 0, .int .u8 0, .int .u8 0, .int .u8 0, .int .u8 0, .int .u8 0, .int .u8 0, .int .u8 0, .int .u8 0, .int .u8 0, .int .u8 0, .int .u8 0, .int .u8 0, .int .u8 0, .int .u8 0, .int .u8 0, .int .u8 0, .int .u8 0, .int .u8 0, .int .u8 0, .int .u8 0, .int .u8 0, .int .u8 0] 28)) w.heap.size (d.map (Value.int .u8)).toArray ((cutL d k).map (Value.int .u8)).toArray 28 (0, 0) (alloc_old (alloc_new _ _ rfl))
    have hR : (((w.alloc (.cells (d.map (Value.int .u8)).toArray 28)).alloc (.cells #[.int .u8 0, .int .u8 0, .int .u8 0, .int .u8 0, .int .u8 0, .int .u8 0, .int .u8 0, .int .u8 0, .int .u8 0, .int .u8 0, .int .u8 0, .int .u8 0, .int .u8 0, .int .u8 0, .int .u8 0, .int .u8 0, .int .u8 0, .int .u8 0, .int .u8 0, .int .u8 0, .int .u8 0, .int .u8 0, .int .u8 0, .int .u8 0, .int .u8 0, .int .u8 0, .int .u8 0, .int .u8 0, .int .u8 0, .int .u8 0, .int .u8 0, .int .u8 0] 28)).setRow w.heap.size ((cutL d k).map (Value.int .u8)).toArray).heap[w.heap.size + 1]? = some (.cells #[.int .u8 0, .int .u8 0, .int .u8 0, .int .u8 0, .int .u8 0, .int .u8 0, .int .u8 0, .int .u8 0, .int .u8 0, .int .u8 0, .int .u8 0, .int .u8 0, .int .u8 0, .int .u8 0, .int .u8 0, .int .u8 0, .int .u8 0, .int .u8 0, .int .u8 0, .int .u8 0, .int .u8 0, .int .u8 0, .int .u8 0, .int .u8 0, .int .u8 0, .int .u8 0, .int .u8 0, .int .u8 0, .int .u8 0, .int .u8 0, .int .u8 0, .int .u8 0] 28) := (setRow_other _ _ _ _ (by omega)).trans (alloc_new _ _ (by simp))
    have hK : Kept (fun _ => False) w (((w.alloc (.cells (d.map (Value.int .u8)).toArray 28)).alloc (.cells #[.int .u8 0, .int .u8 0, .int .u8 0, .int .u8 0, .int .u8 0, .int .u8 0, .int .u8 0, .int .u8 0, .int .u8 0, .int .u8 0, .int .u8 0, .int .u8 0, .int .u8 0, .int .u8 0, .int .u8 0, .int .u8 0, .int .u8 0, .int .u8 0, .int .u8 0, .int .u8 0, .int .u8 0, .int .u8 0, .int .u8 0, .int .u8 0, .int .u8 0, .int .u8 0, .int .u8 0, .int .u8 0, .int .u8 0, .int .u8 0, .int .u8 0, .int .u8 0] 28)).setRow w.heap.size ((cutL d k).map (Value.int .u8)).toArray) := (((Kept.refl _ w).alloc _).alloc _).setRow (.inl (Nat.le_refl _)) _
    generalize hcs : ((cutL d k).map (Value.int .u8)).toArray = cs at *
    have HC := hid_of hcs
    clear hcs hcc
    generalize (d.map (Value.int .u8)).toArray = ds at *
    have HB := hid_of hB
    have HR := hid_of hR
    have HK := hid_of hK
    have HRR := hid_of (setRow_heap _ (w.heap.size + 1) _ cs 28 (0, 0) hR)
    have HOS := hid_of hos
    clear hB hR hK hos
    go_enter Tryd.func38, Tryd.ntmps38
    go_wp2_with (first | refine wpList_load_row rfl 28 _ rfl w.heap.size rfl 28 cs (0, 0) _ HB.out Tryd.underlying28 rfl hs28 ?_ | refine wpList_store_row rfl 28 _ _ rfl (w.heap.size + 1) cs rfl rfl 28 _ HR.out hs28 HOS.out hone ?_)
    try simp only [Act.put]
    refine bodyPost_ret (v := .tuple #[.agg cs, .int .i64 0]) ?_ rfl ⟨rfl, HK.out.setRow (.inl (by omega)) _⟩
    exact results_row_tmp (fn := Tryd.f38) (p := 4) (u := 5) (by rfl) _ _ (w.heap.size + 1) 28 cs (0, 0) _ (by rfl) HRR.out Tryd.underlying28 rfl hs28
  · obtain rfl : k = 32 := by omega
    have e : cutL d 32 = d := by simp [cutL, List.take_of_length_le (show d.length ≤ 32 by omega)]
    rw [e] at hone hs28 hos ⊢
    generalize (d.map (Value.int .u8)).toArray = cs at *
    have HOS := hid_of hos
    clear hos
    have hclr : ∀ W, (Builtin.clear_ #[26] 0 #[.slice (some ⟨w.heap.size, 0, none⟩) 0 0]).run Tryd.prog W = .ok (.tuple #[]) W := fun W => by simp [Builtin.clear_, run_underlying Tryd.underlying26]
    go_enter Tryd.func38, Tryd.ntmps38
    go_wp2_with (first | refine wpList_load_row rfl 28 _ rfl w.heap.size rfl 28 cs (0, 0) _ (alloc_old (alloc_new _ _ rfl)) Tryd.underlying28 rfl hs28 ?_ | (refine wpList_store_row rfl 28 _ _ rfl (w.heap.size + 1) cs rfl rfl 28 _ (alloc_new _ _ (by simp)) hs28 HOS.out hone ?_; rw [setRow_new _ _ _ _ (by simp)]))
    try simp only [Act.put]
    refine bodyPost_ret (v := .tuple #[.agg cs, .int .i64 0]) ?_ rfl ⟨rfl, ((Kept.refl _ w).alloc _).alloc _⟩
    exact results_row_tmp (fn := Tryd.f38) (p := 4) (u := 5) (by rfl) _ _ (w.heap.size + 1) 28 cs (0, 0) _ (by rfl) (alloc_new _ _ (by simp)) Tryd.underlying28 rfl hs28
end Go.Proofs.YtjdbmjkidljhpaaDoor

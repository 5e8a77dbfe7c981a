/-
  Cut, of the program and of the reference, by contract.
-/
import Derived.Test.YtjdbmjkidljhpaaDoorOf
import Derived.Test.YtjdbmjkidljhpaaDoorEql
import Derived.Laws.CopyRow
import Derived.Laws.ResultCell
namespace Go.Proofs.YtjdbmjkidljhpaaDoor
open Go.RowKit
set_option linter.unusedVariables false
set_option maxRecDepth 100000
set_option linter.unusedSimpArgs false

def zeros32 : List Int := List.replicate 32 0
/-- The front of that width. -/
def cutL (d : List Int) (k : Nat) : List Int := d.take k ++ List.replicate (32 - k) 0
theorem cutL_length (d : List Int) (k : Nat) (hl : d.length = 32) (hk : k ≤ 32) : (cutL d k).length = 32 := by simp [cutL, hl]; omega

theorem results_row_tmp {P : Program} {fn : Func} {p u : Tmp} {ty : TypeId} (h : fn.results = #[.cell p ty, .tmp u]) (tmps : Array Value) (w : World) (g : Nat) (t : TypeId) (cs : Array Value) (fr : Nat × Nat) (d : TypeDesc)
    (hp : tmps.getD p undef = .pointer (some ⟨g, 0, none⟩)) (hg : w.heap[g]? = some (.cells cs t fr))
    (hu : P.underlying ty = some d) (hd : (match d with | .struct _ | .array _ _ => true | _ => false) = true) (hi : (P.info? ty).map (·.size) = some cs.size) :
    (results fn tmps).run P w = .ok (.tuple #[.agg cs, tmps.getD u undef]) w := by
  rw [results_cell_tmp h tmps P w, hp]
  simp [asAddr, run_loadVar_row w g t ty cs fr d hg hu hd hi]

theorem run_clear_row (w : World) (g k n c : Nat) (ty : TypeId) (cur : Array Value) (t : TypeId) (hg : w.heap[g]? = some (.cells cur t (0, 0))) (hn : 0 < n) (hfit : k + n ≤ cur.size) :
    (Builtin.clear_ #[26] ty #[.slice (some ⟨g, k, none⟩) n c]).run Tryd.prog w = .ok (.tuple #[]) (w.setRow g (cur.toList.take k ++ List.replicate n (Value.int .u8 0) ++ cur.toList.drop (k + n)).toArray) := by
  have hzc : (Builtin.zeroCells (Value.int .u8 0).cells n).toList = List.replicate n (Value.int .u8 0) := by
    simp [Builtin.zeroCells, Value.cells]
    apply List.ext_getElem
    · simp
    · intro i h1 h2
      simp [Nat.mod_one]
  have hst := run_storeCells_at (P := Tryd.prog) g k t (List.replicate n (Value.int .u8 0)) 0 cur w hg (by simpa using hfit) (by intro v hv'; rw [List.eq_of_mem_replicate hv']; rfl)
  simp only [Nat.add_zero, List.length_replicate] at hst
  obtain ⟨m, rfl⟩ : ∃ m, n = m + 1 := ⟨n - 1, by omega⟩
  simp [Builtin.clear_, run_underlying Tryd.underlying26, Tryd.zeroValue5, hzc, hst]

set_option maxRecDepth 100000 in
set_option maxHeartbeats 1000000 in
theorem cut_bad (d : List Int) (width : Int) (hl : d.length = 32) (hw : width < 1 ∨ 32 < width) (w : World) :
    Calls Tryd.prog 38 #[.agg (d.map (Value.int .u8)).toArray, .int .i64 width] w fun e w' => e = .returned (.tuple #[.agg (zeros32.map (Value.int .u8)).toArray, .int .i64 3]) ∧ Kept (fun _ => False) w w' := by
  have h1 := oneCells .u8 zeros32
  have hz28 : (Tryd.prog.info? 28).map (·.size) = some (zeros32.map (Value.int .u8)).toArray.size := by simp [size28, zeros32]
  generalize (d.map (Value.int .u8)).toArray = cs at *
  by_cases hw1 : width < 1
  · clear hw
    go_enter Tryd.func38, Tryd.ntmps38
    go_wp2_with (refine wpList_store_row rfl 28 _ _ rfl (w.heap.size + 1) (zeros32.map (Value.int .u8)).toArray rfl rfl 28 _ (alloc_new _ _ (by simp)) hz28 rfl h1 ?_; rw [setRow_new _ _ _ _ (by simp)])
    try simp only [Act.put]
    refine bodyPost_ret (v := .tuple #[.agg (zeros32.map (Value.int .u8)).toArray, .int .i64 3]) ?_ rfl ⟨rfl, ((Kept.refl _ w).alloc _).alloc _⟩
    exact results_row_tmp (fn := Tryd.f38) (p := 4) (u := 5) (by rfl) _ _ (w.heap.size + 1) 28 (zeros32.map (Value.int .u8)).toArray (0, 0) _ (by rfl) (alloc_new _ _ (by simp)) Tryd.underlying28 rfl hz28
  · have hw2 : 32 < width := by omega
    have hw3 : 1 ≤ width := by omega
    clear hw hw1
    go_enter Tryd.func38, Tryd.ntmps38
    go_wp2_with (refine wpList_store_row rfl 28 _ _ rfl (w.heap.size + 1) (zeros32.map (Value.int .u8)).toArray rfl rfl 28 _ (alloc_new _ _ (by simp)) hz28 rfl h1 ?_; rw [setRow_new _ _ _ _ (by simp)])
    try simp only [Act.put]
    refine bodyPost_ret (v := .tuple #[.agg (zeros32.map (Value.int .u8)).toArray, .int .i64 3]) ?_ rfl ⟨rfl, ((Kept.refl _ w).alloc _).alloc _⟩
    exact results_row_tmp (fn := Tryd.f38) (p := 4) (u := 5) (by rfl) _ _ (w.heap.size + 1) 28 (zeros32.map (Value.int .u8)).toArray (0, 0) _ (by rfl) (alloc_new _ _ (by simp)) Tryd.underlying28 rfl hz28

theorem run_tail28 (w : World) (g k : Nat) (hk : k < 32) : (Instr.sliceAt 28 (.pointer (some ⟨g, 0, none⟩)) (some (.int .i64 (k : Int))) none none).run Tryd.prog w = .ok (.slice (some ⟨g, k, none⟩) (32 - k) (32 - k)) w := by
  have := run_sliceAt_array_l (P := Tryd.prog) w 28 ⟨g, 0, none⟩ Tryd.underlying28 .i64 (k : Int) (by omega) (by show (k : Int) ≤ 32; omega)
  rw [this]
  simp [slicedAt, Program.arrayLen, Program.elem, Tryd.underlying28, Tryd.sizeOf5, Addr.add_mid]
  omega

theorem clear_cells (d : List Int) (k : Nat) (hl : d.length = 32) (hk : k ≤ 32) :
    ((d.map (Value.int .u8)).toArray.toList.take k ++ List.replicate (32 - k) (Value.int .u8 0) ++ (d.map (Value.int .u8)).toArray.toList.drop (k + (32 - k))).toArray = ((cutL d k).map (Value.int .u8)).toArray := by
  rw [show k + (32 - k) = 32 by omega]
  simp [cutL, hl]

end Go.Proofs.YtjdbmjkidljhpaaDoor

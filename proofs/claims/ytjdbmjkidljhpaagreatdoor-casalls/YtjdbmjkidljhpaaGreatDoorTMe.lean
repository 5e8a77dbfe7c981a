/-
 Me: CutA, Cut, RcutA, Rcut, Fits.
-/
import Derived.Test.YtjdbmjkidljhpaaGreatDoorTMc
import Derived.Test.YtjdbmjkidljhpaaGreatDoorTMa
import Derived.Laws.CopyRow
import Derived.Laws.ResultCell
namespace Go.Proofs.YtjdbmjkidljhpaaGreatDoor
open Go.RowKit
set_option linter.unusedVariables false
set_option maxRecDepth 100000
set_option linter.unusedSimpArgs false
def zeros32 : List Int := List.replicate 32 0
/-- The front of that width. -/
def cutL (d : List Int) (k : Nat) : List Int := d.take k ++ List.replicate (32 - k) 0
theorem cutL_length (d : List Int) (k : Nat) (hl : d.length = 32) (hk : k ≤ 32) : (cutL d k).length = 32 := by simp [cutL, hl]; omega
theorem results_row_tmp {P : Program} {fn : Func} {p u : Tmp} {ty : TypeId} (h : fn.results = #[.cell p ty, .tmp u]) (tmps : Array Value) (w : World) (g : Nat) (t : TypeId) (cs : Array Value) (fr : Nat × Nat) (d : TypeDesc)
  (hp : tmps.getD p undef = .pointer (some ⟨g, 0, none⟩)) (hg : w.heap[g]? = some (.cells cs t fr))
  (hu : P.underlying ty = some d) (hd : (match d with | .struct _ | .array _ _ => true | _ => false) = true) (hi : (P.info? ty).map (·.size) = some cs.size) :
  (results fn tmps).run P w = .ok (.tuple #[.agg cs, tmps.getD u undef]) w := by
 rw [results_cell_tmp h tmps P w, hp]
 simp [asAddr, run_loadVar_row w g t ty cs fr d hg hu hd hi]
theorem run_clear_row (w : World) (g k n c : Nat) (ty : TypeId) (cur : Array Value) (t : TypeId) (hg : w.heap[g]? = some (.cells cur t (0, 0))) (hn : 0 < n) (hfit : k + n ≤ cur.size) :
  (Builtin.clear_ #[27] ty #[.slice (some ⟨g, k, none⟩) n c]).run Tryz.prog w = .ok (.tuple #[]) (w.setRow g (cur.toList.take k ++ List.replicate n (Value.int .u8 0) ++ cur.toList.drop (k + n)).toArray) := by
 have hzc : (Builtin.zeroCells (Value.int .u8 0).cells n).toList = List.replicate n (Value.int .u8 0) := by
  simp [Builtin.zeroCells, Value.cells]
  apply List.ext_getElem
  ·simp
  ·intro i h1 h2
   simp [Nat.mod_one]
 have hst := run_storeCells_at (P := Tryz.prog) g k t (List.replicate n (Value.int .u8 0)) 0 cur w hg (by simpa using hfit) (by intro v hv'; rw [List.eq_of_mem_replicate hv']; rfl)
 simp only [Nat.add_zero, List.length_replicate] at hst
 obtain ⟨m, rfl⟩ : ∃ m, n = m + 1 := ⟨n - 1, by omega⟩
 simp [Builtin.clear_, run_underlying Tryz.underlying27, Tryz.zeroValue5, hzc, hst]
set_option maxRecDepth 100000 in
set_option maxHeartbeats 1000000 in
theorem cut_bad (d : List Int) (width : Int) (hl : d.length = 32) (hw : width < 1 ∨ 32 < width) (w : World) :
  Calls Tryz.prog 62 #[.agg (d.map (Value.int .u8)).toArray, .int .i64 width] w fun e w' => e = .returned (.tuple #[.agg (zeros32.map (Value.int .u8)).toArray, .int .i64 3]) ∧ Kept (fun _ => False) w w' := by
 have h1 := oneCells .u8 zeros32
 have hz28 : (Tryz.prog.info? 29).map (·.size) = some (zeros32.map (Value.int .u8)).toArray.size := by simp [size28, zeros32]
 generalize (d.map (Value.int .u8)).toArray = cs at *
 by_cases hw1 : width < 1
 ·clear hw
  go_enter Tryz.func62, Tryz.ntmps62
  go_wp2_with (refine wpList_store_row rfl 29 _ _ rfl (w.heap.size + 1) (zeros32.map (Value.int .u8)).toArray rfl rfl 29 _ (alloc_new _ _ (by simp)) hz28 rfl h1 ?_; rw [setRow_new _ _ _ _ (by simp)])
  try simp only [Act.put]
  refine bodyPost_ret (v := .tuple #[.agg (zeros32.map (Value.int .u8)).toArray, .int .i64 3]) ?_ rfl ⟨rfl, ((Kept.refl _ w).alloc _).alloc _⟩
  exact results_row_tmp (fn := Tryz.f62) (p := 4) (u := 5) (by rfl) _ _ (w.heap.size + 1) 29 (zeros32.map (Value.int .u8)).toArray (0, 0) _ (by rfl) (alloc_new _ _ (by simp)) Tryz.underlying29 rfl hz28
 ·have hw2 : 32 < width := by omega
  have hw3 : 1 ≤ width := by omega
  clear hw hw1
  go_enter Tryz.func62, Tryz.ntmps62
  go_wp2_with (refine wpList_store_row rfl 29 _ _ rfl (w.heap.size + 1) (zeros32.map (Value.int .u8)).toArray rfl rfl 29 _ (alloc_new _ _ (by simp)) hz28 rfl h1 ?_; rw [setRow_new _ _ _ _ (by simp)])
  try simp only [Act.put]
  refine bodyPost_ret (v := .tuple #[.agg (zeros32.map (Value.int .u8)).toArray, .int .i64 3]) ?_ rfl ⟨rfl, ((Kept.refl _ w).alloc _).alloc _⟩
  exact results_row_tmp (fn := Tryz.f62) (p := 4) (u := 5) (by rfl) _ _ (w.heap.size + 1) 29 (zeros32.map (Value.int .u8)).toArray (0, 0) _ (by rfl) (alloc_new _ _ (by simp)) Tryz.underlying29 rfl hz28
theorem run_tail28 (w : World) (g k : Nat) (hk : k < 32) : (Instr.sliceAt 29 (.pointer (some ⟨g, 0, none⟩)) (some (.int .i64 (k : Int))) none none).run Tryz.prog w = .ok (.slice (some ⟨g, k, none⟩) (32 - k) (32 - k)) w := by
 have := run_sliceAt_array_l (P := Tryz.prog) w 29 ⟨g, 0, none⟩ Tryz.underlying29 .i64 (k : Int) (by omega) (by show (k : Int) ≤ 32; omega)
 rw [this]
 simp [slicedAt, Program.arrayLen, Program.elem, Tryz.underlying29, Tryz.sizeOf5, Addr.add_mid]
 omega
theorem clear_cells (d : List Int) (k : Nat) (hl : d.length = 32) (hk : k ≤ 32) :
  ((d.map (Value.int .u8)).toArray.toList.take k ++ List.replicate (32 - k) (Value.int .u8 0) ++ (d.map (Value.int .u8)).toArray.toList.drop (k + (32 - k))).toArray = ((cutL d k).map (Value.int .u8)).toArray := by
 rw [show k + (32 - k) = 32 by omega]
 simp [cutL, hl]
end Go.Proofs.YtjdbmjkidljhpaaGreatDoor
namespace Go.Proofs.YtjdbmjkidljhpaaGreatDoor
open Go.RowKit
set_option linter.unusedVariables false
set_option maxRecDepth 100000
set_option linter.unusedSimpArgs false
set_option maxRecDepth 100000 in
set_option maxHeartbeats 1000000 in
theorem cut_ok (d : List Int) (k : Nat) (hl : d.length = 32) (h1 : 1 ≤ k) (h2 : k ≤ 32) (w : World) :
  Calls Tryz.prog 62 #[.agg (d.map (Value.int .u8)).toArray, .int .i64 (k : Int)] w fun e w' => e = .returned (.tuple #[.agg ((cutL d k).map (Value.int .u8)).toArray, .int .i64 0]) ∧ Kept (fun _ => False) w w' := by
 have hone := oneCells .u8 (cutL d k)
 have hcl := cutL_length d k hl h2
 have hs28 : (Tryz.prog.info? 29).map (·.size) = some ((cutL d k).map (Value.int .u8)).toArray.size := by simp [size28, hcl]
 have hos : 32 = ((cutL d k).map (Value.int .u8)).toArray.size := by simp [hcl]
 have hkI : ¬ (k : Int) < 1 := by omega
 have hkJ : ¬ 32 < (k : Int) := by omega
 by_cases h32 : k < 32
 ·have hsl := fun W => run_tail28 W w.heap.size k h32
  have hcc := clear_cells d k hl h2
  have hclr : ∀ o : Obj, (Builtin.clear_ #[27] 0 #[.slice (some ⟨w.heap.size, k, none⟩) (32 - k) (32 - k)]).run Tryz.prog ((w.alloc (.cells (d.map (Value.int .u8)).toArray 29)).alloc o) = .ok (.tuple #[]) (((w.alloc (.cells (d.map (Value.int .u8)).toArray 29)).alloc o).setRow w.heap.size ((cutL d k).map (Value.int .u8)).toArray) := fun o => by
   rw [← hcc]
   exact run_clear_row _ w.heap.size k (32 - k) (32 - k) 0 _ 29 (alloc_old (alloc_new _ _ rfl)) (by omega) (by simp [hl]; omega)
  have hB := setRow_heap ((w.alloc (.cells (d.map (Value.int .u8)).toArray 29)).alloc (.cells z32 29)) w.heap.size (d.map (Value.int .u8)).toArray ((cutL d k).map (Value.int .u8)).toArray 29 (0, 0) (alloc_old (alloc_new _ _ rfl))
  have hR : (((w.alloc (.cells (d.map (Value.int .u8)).toArray 29)).alloc (.cells z32 29)).setRow w.heap.size ((cutL d k).map (Value.int .u8)).toArray).heap[w.heap.size + 1]? = some (.cells z32 29) := (setRow_other _ _ _ _ (by omega)).trans (alloc_new _ _ (by simp))
  have hK : Kept (fun _ => False) w (((w.alloc (.cells (d.map (Value.int .u8)).toArray 29)).alloc (.cells z32 29)).setRow w.heap.size ((cutL d k).map (Value.int .u8)).toArray) := (((Kept.refl _ w).alloc _).alloc _).setRow (.inl (Nat.le_refl _)) _
  generalize hcs : ((cutL d k).map (Value.int .u8)).toArray = cs at *
  have HC := hid_of hcs
  clear hcs hcc
  generalize (d.map (Value.int .u8)).toArray = ds at *
  have HB := hid_of hB
  have HR := hid_of hR
  have HK := hid_of hK
  have HRR := hid_of (setRow_heap _ (w.heap.size + 1) _ cs 29 (0, 0) hR)
  have HOS := hid_of hos
  clear hB hR hK hos
  go_enter Tryz.func62, Tryz.ntmps62
  go_wp2_with (first | refine wpList_load_row rfl 29 _ rfl w.heap.size rfl 29 cs (0, 0) _ HB.out Tryz.underlying29 rfl hs28 ?_ | refine wpList_store_row rfl 29 _ _ rfl (w.heap.size + 1) cs rfl rfl 29 _ HR.out hs28 HOS.out hone ?_)
  try simp only [Act.put]
  refine bodyPost_ret (v := .tuple #[.agg cs, .int .i64 0]) ?_ rfl ⟨rfl, HK.out.setRow (.inl (by omega)) _⟩
  exact results_row_tmp (fn := Tryz.f62) (p := 4) (u := 5) (by rfl) _ _ (w.heap.size + 1) 29 cs (0, 0) _ (by rfl) HRR.out Tryz.underlying29 rfl hs28
 ·obtain rfl : k = 32 := by omega
  have e : cutL d 32 = d := by simp [cutL, List.take_of_length_le (show d.length ≤ 32 by omega)]
  rw [e] at hone hs28 hos ⊢
  generalize (d.map (Value.int .u8)).toArray = cs at *
  have HOS := hid_of hos
  clear hos
  have hclr : ∀ W, (Builtin.clear_ #[27] 0 #[.slice (some ⟨w.heap.size, 0, none⟩) 0 0]).run Tryz.prog W = .ok (.tuple #[]) W := fun W => by simp [Builtin.clear_, run_underlying Tryz.underlying27]
  go_enter Tryz.func62, Tryz.ntmps62
  go_wp2_with (first | refine wpList_load_row rfl 29 _ rfl w.heap.size rfl 29 cs (0, 0) _ (alloc_old (alloc_new _ _ rfl)) Tryz.underlying29 rfl hs28 ?_ | (refine wpList_store_row rfl 29 _ _ rfl (w.heap.size + 1) cs rfl rfl 29 _ (alloc_new _ _ (by simp)) hs28 HOS.out hone ?_; rw [setRow_new _ _ _ _ (by simp)]))
  try simp only [Act.put]
  refine bodyPost_ret (v := .tuple #[.agg cs, .int .i64 0]) ?_ rfl ⟨rfl, ((Kept.refl _ w).alloc _).alloc _⟩
  exact results_row_tmp (fn := Tryz.f62) (p := 4) (u := 5) (by rfl) _ _ (w.heap.size + 1) 29 cs (0, 0) _ (by rfl) (alloc_new _ _ (by simp)) Tryz.underlying29 rfl hs28
end Go.Proofs.YtjdbmjkidljhpaaGreatDoor
namespace Go.Proofs.YtjdbmjkidljhpaaGreatDoor
open Go.RowKit
set_option linter.unusedVariables false
set_option maxRecDepth 100000
set_option linter.unusedSimpArgs false
theorem size31 : (Tryz.prog.info? 100).map (·.size) = some 32 := by kernel_rfl
set_option maxRecDepth 100000 in
set_option maxHeartbeats 1000000 in
theorem rcut_bad (d : List Int) (width : Int) (hl : d.length = 32) (hw : width < 1 ∨ 32 < width) (w : World) :
  Calls Tryz.prog 72 #[.agg (d.map (Value.int .u8)).toArray, .int .i64 width] w fun e w' => e = .returned (.tuple #[.agg (zeros32.map (Value.int .u8)).toArray, .int .i64 3]) ∧ Kept (fun _ => False) w w' := by
 have h1 := oneCells .u8 zeros32
 have hz28 : (Tryz.prog.info? 100).map (·.size) = some (zeros32.map (Value.int .u8)).toArray.size := by simp [size31, zeros32]
 generalize (d.map (Value.int .u8)).toArray = cs at *
 by_cases hw1 : width < 1
 ·clear hw
  go_enter Tryz.func72, Tryz.ntmps72
  go_wp2_with (refine wpList_store_row rfl 100 _ _ rfl (w.heap.size + 1) (zeros32.map (Value.int .u8)).toArray rfl rfl 100 _ (alloc_new _ _ (by simp)) hz28 rfl h1 ?_; rw [setRow_new _ _ _ _ (by simp)])
  try simp only [Act.put]
  refine bodyPost_ret (v := .tuple #[.agg (zeros32.map (Value.int .u8)).toArray, .int .i64 3]) ?_ rfl ⟨rfl, ((Kept.refl _ w).alloc _).alloc _⟩
  exact results_row_tmp (fn := Tryz.f72) (p := 4) (u := 5) (by rfl) _ _ (w.heap.size + 1) 100 (zeros32.map (Value.int .u8)).toArray (0, 0) _ (by rfl) (alloc_new _ _ (by simp)) Tryz.underlying100 rfl hz28
 ·have hw2 : 32 < width := by omega
  have hw3 : 1 ≤ width := by omega
  clear hw hw1
  go_enter Tryz.func72, Tryz.ntmps72
  go_wp2_with (refine wpList_store_row rfl 100 _ _ rfl (w.heap.size + 1) (zeros32.map (Value.int .u8)).toArray rfl rfl 100 _ (alloc_new _ _ (by simp)) hz28 rfl h1 ?_; rw [setRow_new _ _ _ _ (by simp)])
  try simp only [Act.put]
  refine bodyPost_ret (v := .tuple #[.agg (zeros32.map (Value.int .u8)).toArray, .int .i64 3]) ?_ rfl ⟨rfl, ((Kept.refl _ w).alloc _).alloc _⟩
  exact results_row_tmp (fn := Tryz.f72) (p := 4) (u := 5) (by rfl) _ _ (w.heap.size + 1) 100 (zeros32.map (Value.int .u8)).toArray (0, 0) _ (by rfl) (alloc_new _ _ (by simp)) Tryz.underlying100 rfl hz28
end Go.Proofs.YtjdbmjkidljhpaaGreatDoor
namespace Go.Proofs.YtjdbmjkidljhpaaGreatDoor
open Go.RowKit
set_option linter.unusedVariables false
set_option maxRecDepth 100000
set_option linter.unusedSimpArgs false
/-- Place j, where the zeros from k on stand as far as i. -/
def cutf (d : List Int) (k i j : Nat) : Int := if k ≤ j ∧ j < i then 0 else d.getD j 0
theorem cutf_end (d : List Int) (k : Nat) (hl : d.length = 32) (hk : k ≤ 32) (j : Nat) (hj : j < 32) : (cutL d k).getD j 0 = cutf d k 32 j := by
 unfold cutL cutf
 by_cases h : j < k
 ·rw [if_neg (by omega), List.getD, List.getElem?_append_left (by simp [hl]; omega), List.getElem?_take_of_lt h]
  rfl
 ·rw [if_pos ⟨by omega, hj⟩, List.getD, List.getElem?_append_right (by simp [hl]; omega)]
  rw [List.getElem?_replicate]
  split <;> rfl
set_option maxRecDepth 100000 in
set_option maxHeartbeats 1000000 in
theorem rcut_ok (d : List Int) (k : Nat) (hl : d.length = 32) (h1 : 1 ≤ k) (h2 : k ≤ 32) (w : World) :
  Calls Tryz.prog 72 #[.agg (d.map (Value.int .u8)).toArray, .int .i64 (k : Int)] w fun e w' => e = .returned (.tuple #[.agg ((cutL d k).map (Value.int .u8)).toArray, .int .i64 0]) ∧ Kept (fun _ => False) w w' := by
 have hkI : ¬ (k : Int) < 1 := by omega
 have hkJ : ¬ 32 < (k : Int) := by omega
 have R0 : Hid (∀ o : Obj, Row ((w.alloc (.cells (d.map (Value.int .u8)).toArray 100)).alloc o) w.heap.size 100 .u8 32 32 (cutf d k k)) := fun o => ⟨_, alloc_old (alloc_new _ _ rfl), by simp [hl], fun j hj => by
  unfold cutf
  rw [if_neg (by omega)]
  simp [List.getD, List.getElem?_eq_getElem (show j < d.length by omega)]⟩
 generalize hds : (d.map (Value.int .u8)).toArray = ds at *
 clear hds
 go_enter Tryz.func72, Tryz.ntmps72
 go_wp2
 go_loopw [6] (fun i wr => ∃ m : Nat, k ≤ m ∧ m ≤ 32 ∧ i = .int .i64 m ∧ Row wr w.heap.size 100 .u8 32 32 (cutf d k m) ∧ Row wr (w.heap.size + 1) 100 .u8 32 0 (fun _ => 0) ∧ Kept (fun _ => False) w wr) (fun i _ => 32 - (intOf i).toNat)
 case atStart => exact ⟨k, Nat.le_refl _, h2, rfl, R0.out _, ⟨_, alloc_new _ _ (by simp), rfl, fun j hj => absurd hj (by omega)⟩, ((Kept.refl _ w).alloc _).alloc _⟩
 case round =>
  clear R0
  obtain ⟨m, hm, hm2, rfl, hR, hO, hK⟩ := hrel
  by_cases hlt : m < 32
  ·obtain ⟨⟨u, hu⟩, hf⟩ := hR.there (k := m) hlt
   have HS : Hid (Row (wr.setCell ⟨w.heap.size, m, none⟩ (.int .u8 0)) w.heap.size 100 .u8 32 32 (cutf d k (m + 1))) := hR.set hlt _ (by unfold cutf; rw [if_pos ⟨hm, by omega⟩]) (fun j hj hne => ⟨hj, by
    unfold cutf
    by_cases h : k ≤ j ∧ j < m
    ·rw [if_pos ⟨h.1, by omega⟩, if_pos h]
    ·rw [if_neg (by omega), if_neg h]⟩)
   have HO : Hid (Row (wr.setCell ⟨w.heap.size, m, none⟩ (.int .u8 0)) (w.heap.size + 1) 100 .u8 32 0 (fun _ => 0)) := hO.other _ _ (by show _ ≠ w.heap.size; omega)
   have HK : Hid (Kept (fun _ => False) w (wr.setCell ⟨w.heap.size, m, none⟩ (.int .u8 0))) := hK.setCell (.inl (Nat.le_refl _)) _
   clear hR hO hK
   have hmI : (m : Int) < 32 := by omega
   go_wp2
   go_roundw
   case rel => exact ⟨m + 1, by omega, by omega, by go_num, HS.out, HO.out, HK.out⟩
   case measure => simp [intOf]; omega
  ·obtain rfl : m = 32 := by omega
   obtain ⟨cur, hB, hsz, hcur⟩ := hR
   have hcl := cutL_length d k hl h2
   obtain rfl := row_list hsz hcl (fun j hj => (hcur j hj).trans (by rw [cutf_end d k hl h2 j hj]))
   obtain ⟨old, hO, hosz, _⟩ := hO
   have hone := oneCells .u8 (cutL d k)
   have hs31 : (Tryz.prog.info? 100).map (·.size) = some ((cutL d k).map (Value.int .u8)).toArray.size := by simp [size31, hcl]
   have hos : old.size = ((cutL d k).map (Value.int .u8)).toArray.size := by simp [hosz, hcl]
   have HKR : Hid (Kept (fun _ => False) w (wr.setRow (w.heap.size + 1) ((cutL d k).map (Value.int .u8)).toArray)) := hK.setRow (.inl (by omega)) _
   have HRR := hid_of (setRow_heap wr (w.heap.size + 1) old ((cutL d k).map (Value.int .u8)).toArray 100 (0, 0) hO)
   clear hcur hsz hosz hK
   generalize hcs : ((cutL d k).map (Value.int .u8)).toArray = cs at *
   have HC := hid_of hcs
   clear hcs
   go_wp2_with (first | refine wpList_load_row rfl 100 _ rfl w.heap.size rfl 100 cs (0, 0) _ hB Tryz.underlying100 rfl hs31 ?_ | refine wpList_store_row rfl 100 _ _ rfl (w.heap.size + 1) cs rfl rfl 100 old hO hs31 hos hone ?_)
   try simp only [Act.put]
   refine bodyPost_ret (v := .tuple #[.agg cs, .int .i64 0]) ?_ rfl ⟨by rw [HC.out], HKR.out⟩
   exact results_row_tmp (fn := Tryz.f72) (p := 4) (u := 5) (by rfl) _ _ (w.heap.size + 1) 100 cs (0, 0) _ (by rfl) HRR.out Tryz.underlying100 rfl hs31
end Go.Proofs.YtjdbmjkidljhpaaGreatDoor
namespace Go.Proofs.YtjdbmjkidljhpaaGreatDoor
open Go.RowKit
set_option linter.unusedVariables false
set_option maxRecDepth 100000
set_option linter.unusedSimpArgs false
/-- A whole row, read under a guard that lets it. -/
theorem wpList_load_wanted {P : Program} {ops : Array Oper} {rest : List Oper} {o : Oper} {a : Act} {w : World} {Q : Exit → Act → World → Prop} (hw : Region.wanted o (yielded ops a.tmps) = true) (ty : TypeId) (x : Operand) (ho : o.op = .load ty x)
  (g : Nat) (hx : a.eval x = .pointer (some ⟨g, 0, none⟩)) (t : TypeId) (cs : Array Value) (fr : Nat × Nat) (d : TypeDesc) (hg : w.heap[g]? = some (.cells cs t fr))
  (hu : P.underlying ty = some d) (hd : (match d with | .struct _ | .array _ _ => true | _ => false) = true) (hi : (P.info? ty).map (·.size) = some cs.size)
  (h : wpList P ops Q rest (a.put o.dst (.agg cs)) w) : wpList P ops Q (o :: rest) a w := by
 unfold wpList
 rw [if_pos hw]
 exact .inl (wp_load_row ty x ho g hx t cs fr d hg hu hd hi h)
/-- What Cut tells: the front, and the error. -/
def cutR (d : List Int) (width : Int) : List Int := if width < 1 ∨ 32 < width then zeros32 else cutL d width.toNat
def cutE (width : Int) : Int := if width < 1 ∨ 32 < width then 3 else 0
theorem cutR_length (d : List Int) (width : Int) (hl : d.length = 32) : (cutR d width).length = 32 := by
 unfold cutR
 split
 ·rfl
 ·exact cutL_length d _ hl (by omega)
theorem cut_any (d : List Int) (width : Int) (hl : d.length = 32) (w : World) :
  Calls Tryz.prog 62 #[.agg (d.map (Value.int .u8)).toArray, .int .i64 width] w fun e w' => e = .returned (.tuple #[.agg ((cutR d width).map (Value.int .u8)).toArray, .int .i64 (cutE width)]) ∧ Kept (fun _ => False) w w' := by
 by_cases h : width < 1 ∨ 32 < width
 ·have := cut_bad d width hl h w
  rw [cutR, cutE, if_pos h, if_pos h]
  exact this
 ·obtain ⟨k, rfl⟩ := Int.eq_ofNat_of_zero_le (show 0 ≤ width by omega)
  have := cut_ok d k hl (by omega) (by omega) w
  rw [cutR, cutE, if_neg h, if_neg h]
  exact this
theorem rcut_any (d : List Int) (width : Int) (hl : d.length = 32) (w : World) :
  Calls Tryz.prog 72 #[.agg (d.map (Value.int .u8)).toArray, .int .i64 width] w fun e w' => e = .returned (.tuple #[.agg ((cutR d width).map (Value.int .u8)).toArray, .int .i64 (cutE width)]) ∧ Kept (fun _ => False) w w' := by
 by_cases h : width < 1 ∨ 32 < width
 ·have := rcut_bad d width hl h w
  rw [cutR, cutE, if_pos h, if_pos h]
  exact this
 ·obtain ⟨k, rfl⟩ := Int.eq_ofNat_of_zero_le (show 0 ≤ width by omega)
  have := rcut_ok d k hl (by omega) (by omega) w
  rw [cutR, cutE, if_neg h, if_neg h]
  exact this
def fitsL (d : List Int) (width : Int) : Bool := cutE width == 0 && decide (cutR d width = d)
set_option maxRecDepth 100000 in
set_option maxHeartbeats 1000000 in
theorem fits_any (d : List Int) (width : Int) (hl : d.length = 32) (w : World) :
  Calls Tryz.prog 60 #[.agg (d.map (Value.int .u8)).toArray, .int .i64 width] w fun e w' => e = .returned (.bool (fitsL d width)) ∧ Kept (fun _ => False) w w' := by
 have HC := hid_of (fun W => cut_any d width hl W)
 have hfl := cutR_length d width hl
 have hone := oneCells .u8 (cutR d width)
 have hsD : (Tryz.prog.info? 29).map (·.size) = some (d.map (Value.int .u8)).toArray.size := by simp [size28, hl]
 have hsF : (Tryz.prog.info? 29).map (·.size) = some ((cutR d width).map (Value.int .u8)).toArray.size := by simp [size28, hfl]
 have HOS : Hid (32 = ((cutR d width).map (Value.int .u8)).toArray.size) := by show 32 = _; simp [hfl]
 have heq := fun W => run_eql32 W 29 (cutR d width) d Tryz.underlying29 hfl hl
 have hX : fitsL d width = (cutE width == 0 && decide (cutR d width = d)) := rfl
 generalize decide (cutR d width = d) = t at *
 have HX := hid_of hX
 clear hX hfl
 generalize ((cutR d width).map (Value.int .u8)).toArray = fr at *
 generalize (d.map (Value.int .u8)).toArray = ds at *
 generalize cutE width = ev at *
 by_cases hev : ev = 0
 ·subst hev
  go_enter Tryz.func60, Tryz.ntmps60
  go_wp2_with (refine wpList_load_row rfl 29 _ rfl w.heap.size rfl 29 ds (0, 0) _ (alloc_new _ _ rfl) Tryz.underlying29 rfl hsD ?_)
  refine (HC.out _).mono ?_
  rintro e w1 ⟨rfl, hk⟩
  have hD : (w1.alloc (.cells fr 29)).heap[w.heap.size]? = some (.cells ds 29 (0, 0)) := alloc_old ((hk.block _ (by simp) (fun f => f)).trans (alloc_new _ _ rfl))
  have hF : (w1.alloc (.cells fr 29)).heap[w1.heap.size]? = some (.cells fr 29 (0, 0)) := alloc_new _ _ rfl
  have HK : Hid (Kept (fun _ => False) w (w1.alloc (.cells fr 29))) := (((Kept.refl _ w).alloc _).trans hk).alloc _
  have HD := hid_of hD
  have HF := hid_of hF
  clear hk hD hF HC
  go_wp2_with (first | refine wpList_load_wanted (by rfl) 29 _ rfl w1.heap.size rfl 29 fr (0, 0) _ HF.out Tryz.underlying29 rfl hsF ?_ | refine wpList_load_wanted (by rfl) 29 _ rfl w.heap.size rfl 29 ds (0, 0) _ HD.out Tryz.underlying29 rfl hsD ?_ | (refine wpList_store_row rfl 29 _ _ rfl w1.heap.size fr rfl rfl 29 _ (alloc_new _ _ rfl) hsF HOS.out hone ?_; rw [setRow_new _ _ _ _ rfl]))
  go_ret
  exact ⟨by rw [HX.out]; rfl, HK.out⟩
 ·have hne : (ev == 0) = false := by simpa using hev
  go_enter Tryz.func60, Tryz.ntmps60
  go_wp2_with (refine wpList_load_row rfl 29 _ rfl w.heap.size rfl 29 ds (0, 0) _ (alloc_new _ _ rfl) Tryz.underlying29 rfl hsD ?_)
  refine (HC.out _).mono ?_
  rintro e w1 ⟨rfl, hk⟩
  have HK : Hid (Kept (fun _ => False) w (w1.alloc (.cells fr 29))) := (((Kept.refl _ w).alloc _).trans hk).alloc _
  clear hk HC
  go_wp2_with (refine wpList_store_row rfl 29 _ _ rfl w1.heap.size fr rfl rfl 29 _ (alloc_new _ _ rfl) hsF HOS.out hone ?_; rw [setRow_new _ _ _ _ rfl])
  go_ret
  exact ⟨by rw [HX.out, hne]; rfl, HK.out⟩
set_option maxRecDepth 100000 in
set_option maxHeartbeats 1000000 in
theorem rfits_any (d : List Int) (width : Int) (hl : d.length = 32) (w : World) :
  Calls Tryz.prog 61 #[.agg (d.map (Value.int .u8)).toArray, .int .i64 width] w fun e w' => e = .returned (.bool (fitsL d width)) ∧ Kept (fun _ => False) w w' := by
 have HC := hid_of (fun W => rcut_any d width hl W)
 have hfl := cutR_length d width hl
 have hone := oneCells .u8 (cutR d width)
 have hsD : (Tryz.prog.info? 100).map (·.size) = some (d.map (Value.int .u8)).toArray.size := by simp [size31, hl]
 have hsF : (Tryz.prog.info? 100).map (·.size) = some ((cutR d width).map (Value.int .u8)).toArray.size := by simp [size31, hfl]
 have HOS : Hid (32 = ((cutR d width).map (Value.int .u8)).toArray.size) := by show 32 = _; simp [hfl]
 have heq := fun W => run_eql32 W 100 (cutR d width) d Tryz.underlying100 hfl hl
 have hX : fitsL d width = (cutE width == 0 && decide (cutR d width = d)) := rfl
 generalize decide (cutR d width = d) = t at *
 have HX := hid_of hX
 clear hX hfl
 generalize ((cutR d width).map (Value.int .u8)).toArray = fr at *
 generalize (d.map (Value.int .u8)).toArray = ds at *
 generalize cutE width = ev at *
 by_cases hev : ev = 0
 ·subst hev
  go_enter Tryz.func61, Tryz.ntmps61
  go_wp2_with (refine wpList_load_row rfl 100 _ rfl w.heap.size rfl 100 ds (0, 0) _ (alloc_new _ _ rfl) Tryz.underlying100 rfl hsD ?_)
  refine (HC.out _).mono ?_
  rintro e w1 ⟨rfl, hk⟩
  have hD : (w1.alloc (.cells fr 100)).heap[w.heap.size]? = some (.cells ds 100 (0, 0)) := alloc_old ((hk.block _ (by simp) (fun f => f)).trans (alloc_new _ _ rfl))
  have hF : (w1.alloc (.cells fr 100)).heap[w1.heap.size]? = some (.cells fr 100 (0, 0)) := alloc_new _ _ rfl
  have HK : Hid (Kept (fun _ => False) w (w1.alloc (.cells fr 100))) := (((Kept.refl _ w).alloc _).trans hk).alloc _
  have HD := hid_of hD
  have HF := hid_of hF
  clear hk hD hF HC
  go_wp2_with (first | refine wpList_load_wanted (by rfl) 100 _ rfl w1.heap.size rfl 100 fr (0, 0) _ HF.out Tryz.underlying100 rfl hsF ?_ | refine wpList_load_wanted (by rfl) 100 _ rfl w.heap.size rfl 100 ds (0, 0) _ HD.out Tryz.underlying100 rfl hsD ?_ | (refine wpList_store_row rfl 100 _ _ rfl w1.heap.size fr rfl rfl 100 _ (alloc_new _ _ rfl) hsF HOS.out hone ?_; rw [setRow_new _ _ _ _ rfl]))
  go_ret
  exact ⟨by rw [HX.out]; rfl, HK.out⟩
 ·have hne : (ev == 0) = false := by simpa using hev
  go_enter Tryz.func61, Tryz.ntmps61
  go_wp2_with (refine wpList_load_row rfl 100 _ rfl w.heap.size rfl 100 ds (0, 0) _ (alloc_new _ _ rfl) Tryz.underlying100 rfl hsD ?_)
  refine (HC.out _).mono ?_
  rintro e w1 ⟨rfl, hk⟩
  have HK : Hid (Kept (fun _ => False) w (w1.alloc (.cells fr 100))) := (((Kept.refl _ w).alloc _).trans hk).alloc _
  clear hk HC
  go_wp2_with (refine wpList_store_row rfl 100 _ _ rfl w1.heap.size fr rfl rfl 100 _ (alloc_new _ _ rfl) hsF HOS.out hone ?_; rw [setRow_new _ _ _ _ rfl])
  go_ret
  exact ⟨by rw [HX.out, hne]; rfl, HK.out⟩
end Go.Proofs.YtjdbmjkidljhpaaGreatDoor

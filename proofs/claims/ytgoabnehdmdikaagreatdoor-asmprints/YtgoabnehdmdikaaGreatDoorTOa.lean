/-
  TOa: Oa.
-/
import Derived.Test.YtgoabnehdmdikaaGreatDoorTMa
import Derived.Laws.Tables
import Derived.Laws.Rows
import Derived.Laws.ResultCell
import Derived.Deep.MidRow
namespace Go.Proofs.YtgoabnehdmdikaaGreatDoor
open Go.RowKit
set_option linter.unusedVariables false
set_option linter.unusedSimpArgs false
set_option maxRecDepth 100000

/-- A row of a table: name, operand, takes, gives. -/
structure Sh where
  nm : ByteArray
  o : Int
  t : Int
  g : Int
def Sh.cells (s : Sh) : List Value := [.string s.nm, .int .i64 s.o, .int .i64 s.t, .int .i64 s.g]
def Sh.none : Sh := ⟨⟨#[]⟩, 0, 0, 0⟩
/-- The instructions. -/
def insL : List Sh := [
  ⟨⟨#[110, 111, 112]⟩, 0, 0, 0⟩,
  ⟨⟨#[104, 97, 108, 116]⟩, 0, 1, 0⟩,
  ⟨⟨#[97, 98, 111, 114, 116]⟩, 0, 1, 0⟩,
  ⟨⟨#[110, 117, 109]⟩, 1, 0, 1⟩,
  ⟨⟨#[112, 111, 112]⟩, 0, 1, 0⟩,
  ⟨⟨#[99, 111, 112, 121]⟩, 6, 0, 1⟩,
  ⟨⟨#[115, 119, 97, 112]⟩, 0, 2, 2⟩,
  ⟨⟨#[103, 101, 116]⟩, 2, 0, 1⟩,
  ⟨⟨#[115, 101, 116]⟩, 2, 1, 0⟩,
  ⟨⟨#[108, 111, 97, 100]⟩, 0, 1, 1⟩,
  ⟨⟨#[115, 116, 111, 114, 101]⟩, 0, 2, 0⟩,
  ⟨⟨#[108, 111, 97, 100, 56]⟩, 0, 1, 1⟩,
  ⟨⟨#[115, 116, 111, 114, 101, 56]⟩, 0, 2, 0⟩,
  ⟨⟨#[115, 105, 122, 101]⟩, 0, 0, 1⟩,
  ⟨⟨#[106, 117, 109, 112]⟩, 3, 0, 0⟩,
  ⟨⟨#[122, 101, 114, 111]⟩, 3, 1, 0⟩,
  ⟨⟨#[110, 111, 116, 122, 101, 114, 111]⟩, 3, 1, 0⟩,
  ⟨⟨#[99, 97, 108, 108]⟩, 4, -1, -1⟩,
  ⟨⟨#[114, 101, 116]⟩, 0, -1, 0⟩,
  ⟨⟨#[115, 121, 115]⟩, 5, -1, 1⟩,
  ⟨⟨#[97, 100, 100]⟩, 0, 2, 1⟩,
  ⟨⟨#[115, 117, 98]⟩, 0, 2, 1⟩,
  ⟨⟨#[109, 117, 108]⟩, 0, 2, 1⟩,
  ⟨⟨#[100, 105, 118]⟩, 0, 2, 1⟩,
  ⟨⟨#[114, 101, 109]⟩, 0, 2, 1⟩,
  ⟨⟨#[97, 110, 100]⟩, 0, 2, 1⟩,
  ⟨⟨#[111, 114]⟩, 0, 2, 1⟩,
  ⟨⟨#[120, 111, 114]⟩, 0, 2, 1⟩,
  ⟨⟨#[115, 104, 108]⟩, 0, 2, 1⟩,
  ⟨⟨#[115, 104, 114]⟩, 0, 2, 1⟩,
  ⟨⟨#[117, 115, 104, 114]⟩, 0, 2, 1⟩,
  ⟨⟨#[101, 113]⟩, 0, 2, 1⟩,
  ⟨⟨#[108, 116]⟩, 0, 2, 1⟩,
  ⟨⟨#[117, 108, 116]⟩, 0, 2, 1⟩,
  ⟨⟨#[110, 101, 103]⟩, 0, 1, 1⟩,
  ⟨⟨#[110, 111, 116]⟩, 0, 1, 1⟩,
  ⟨⟨#[102, 97, 100, 100]⟩, 0, 2, 1⟩,
  ⟨⟨#[102, 115, 117, 98]⟩, 0, 2, 1⟩,
  ⟨⟨#[102, 109, 117, 108]⟩, 0, 2, 1⟩,
  ⟨⟨#[102, 100, 105, 118]⟩, 0, 2, 1⟩,
  ⟨⟨#[102, 101, 113]⟩, 0, 2, 1⟩,
  ⟨⟨#[102, 108, 116]⟩, 0, 2, 1⟩,
  ⟨⟨#[102, 110, 101, 103]⟩, 0, 1, 1⟩,
  ⟨⟨#[102, 114, 111, 111, 116]⟩, 0, 1, 1⟩,
  ⟨⟨#[116, 111, 102]⟩, 0, 1, 1⟩,
  ⟨⟨#[116, 111, 105]⟩, 0, 1, 1⟩]
/-- The calls of files. -/
def sysL : List Sh := [
  ⟨⟨#[111, 112, 101, 110]⟩, 0, 3, 1⟩,
  ⟨⟨#[114, 101, 97, 100]⟩, 0, 3, 1⟩,
  ⟨⟨#[119, 114, 105, 116, 101]⟩, 0, 3, 1⟩,
  ⟨⟨#[108, 105, 115, 116]⟩, 0, 4, 1⟩,
  ⟨⟨#[99, 108, 111, 115, 101]⟩, 0, 1, 1⟩]
def tcells (l : List Sh) : List Value := l.flatMap Sh.cells
def tparts (l : List Sh) : List (Nat × Value) := l.zipIdx.map fun (s, i) => (i, .agg s.cells.toArray)
theorem built57 : Tryz.prog.built 205 (tparts insL) = some (tcells insL).toArray := by kernel_rfl
theorem size57 : (Tryz.prog.info? 205).map (·.size) = some (tcells insL).toArray.size := by kernel_rfl
theorem one57 : (tcells insL).toArray.all (·.oneCell') = true := by kernel_rfl
theorem one63 : (tcells sysL).toArray.all (·.oneCell') = true := by kernel_rfl
/-- The empty tables. -/
def z57 : Array Value := (tcells (List.replicate 46 Sh.none)).toArray
def z63 : Array Value := (tcells (List.replicate 5 Sh.none)).toArray
theorem kept_row (w : World) (g : Nat) (cs : Array Value) : Kept (fun k => k = g) w (w.setRow g cs) :=
  ⟨rfl, rfl, rfl, by simp [World.setRow], fun k _ hn => setRow_other _ _ _ _ hn⟩


section
variable {ops : Array Oper} {o : Oper} {a : Act} {w : World} {Q : Exit → Act → World → Prop} {rest : List Oper}
theorem wpList_tab57 (hg : o.guard = none) (parts : Array (Nat × Operand)) (ho : o.op = .build 205 parts) (e : (parts.map fun (i, x) => (i, a.eval x)).toList = tparts insL)
    (h : wpList Tryz.prog ops Q rest (a.put o.dst (.agg (tcells insL).toArray)) w) : wpList Tryz.prog ops Q (o :: rest) a w := by
  refine wpList_build hg 205 _ ho (by rw [e, built57]; rfl) ?_
  rw [e, built57]
  exact h
/-- An operation whose value and world are said. -/
theorem wpList_to (hg : o.guard = none) (dst : Option Tmp) (hdst : o.dst = dst) (v : Value) (w' : World) (hrun : (execOp a.eval o).run Tryz.prog w = .ok (.value v) w')
    (h : wpList Tryz.prog ops Q rest (a.put dst v) w') : wpList Tryz.prog ops Q (o :: rest) a w := by
  subst hdst
  refine wpList_plain hg fun K hK => ?_
  unfold Oper.wp
  rw [hrun, Oper.upon_value]
  exact hK _ _ h
end

/-- A new variable and what is stored there. -/
theorem new_row (w : World) (z cs : Array Value) (t : TypeId) : (w.alloc (.cells z t)).heap[w.heap.size]? = some (.cells z t (0, 0)) ∧
    ((w.alloc (.cells z t)).setRow w.heap.size cs).heap[w.heap.size]? = some (.cells cs t (0, 0)) ∧ Kept (fun _ => False) w ((w.alloc (.cells z t)).setRow w.heap.size cs) := by
  have hO := heap_alloc_new w (.cells z t)
  exact ⟨hO, setRow_heap _ w.heap.size _ cs t (0, 0) hO, ((Kept.refl (fun _ => False) w).alloc _).step (kept_row _ w.heap.size _) (fun i hi e => by omega)⟩

set_option maxHeartbeats 4000000 in
theorem ins_any (w : World) : Calls Tryz.prog 122 #[] w fun e w' => e = .returned (.agg (tcells insL).toArray) ∧ Kept (fun _ => False) w w' := by
  obtain ⟨hO, hX, hK⟩ := new_row w z57 (tcells insL).toArray 205
  go_enter Tryz.func122, Tryz.ntmps122
  go_wp2_with (first | refine wpList_to rfl (some 0) rfl (.pointer (some ⟨w.heap.size, 0, none⟩)) (w.alloc (.cells z57 205)) (by kernel_rfl) ?_ | refine wpList_tab57 rfl _ rfl (by kernel_rfl) ?_ | refine wpList_store_row rfl 205 _ _ rfl w.heap.size (tcells insL).toArray rfl rfl 205 _ hO size57 (by kernel_rfl) one57 ?_)
  refine bodyPost_ret (v := .agg (tcells insL).toArray) ?_ rfl ⟨rfl, hK⟩
  exact results_cell_row (by rfl) _ _ w.heap.size 205 _ (0, 0) _ (by rfl) hX Tryz.underlying205 rfl size57


end Go.Proofs.YtgoabnehdmdikaaGreatDoor

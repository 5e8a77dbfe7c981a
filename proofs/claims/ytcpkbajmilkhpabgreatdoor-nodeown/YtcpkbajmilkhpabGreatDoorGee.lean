/-
  Grown of entries: its steps.
-/
import Derived.Test.YtcpkbajmilkhpabGreatDoorGrx
import Derived.Test.YtcpkbajmilkhpabGreatDoorNsm
import Derived.Test.YtcpkbajmilkhpabGreatDoorNrp
import Derived.Deep.RegionHeld3
namespace Go.Proofs.YtcpkbajmilkhpabGreatDoor
open Go.RowKit
set_option linter.unusedVariables false
set_option linter.unusedSimpArgs false
set_option maxRecDepth 100000

def dig2 (A B : Int) : List Value := ([A, B] ++ List.replicate 30 0).map (Value.int .u8)
def dig1 (A : Int) : List Value := ([A] ++ List.replicate 31 0).map (Value.int .u8)
theorem built_dig2 (A B : Int) : Tryz.prog.built 39 [(0, .int .u8 A), (1, .int .u8 B)] = some (dig2 A B).toArray := by kernel_rfl
theorem built_dig1 (A : Int) : Tryz.prog.built 39 [(0, .int .u8 A)] = some (dig1 A).toArray := by kernel_rfl
theorem built_ent2 (k A B : Int) : Tryz.prog.built 41 [(1, .int .i64 k), (2, .agg (dig2 A B).toArray)] = some (EV.mk [] k [A, B]).cells.toArray := by kernel_rfl
theorem built_ent1 (k A : Int) : Tryz.prog.built 41 [(1, .int .i64 k), (2, .agg (dig1 A).toArray)] = some (EV.mk [] k [A]).cells.toArray := by kernel_rfl
theorem size39 : (Tryz.prog.info? 39).map (·.size) = some 32 := by kernel_rfl
theorem Tryz.info22' : (Tryz.prog.info? 22).map (fun i => (i.zero, i.size, i.bytes)) = some (some (.slice none 0 0), 1, 24) := by kernel_rfl

section
variable {ops : Array Oper} {o : Oper} {a : Act} {w : World} {Q : Exit → Act → World → Prop} {rest : List Oper}
theorem wpList_dig2 (hg : o.guard = none) (x y : Operand) (ho : o.op = .build 39 #[(0, x), (1, y)]) (A B : Int) (hx : a.eval x = .int .u8 A) (hy : a.eval y = .int .u8 B)
    (h : wpList Tryz.prog ops Q rest (a.put o.dst (.agg (dig2 A B).toArray)) w) : wpList Tryz.prog ops Q (o :: rest) a w := by
  have e : (#[((0 : Nat), x), (1, y)].map fun (i, z) => (i, a.eval z)).toList = [(0, .int .u8 A), (1, .int .u8 B)] := by rw [← hx, ← hy]; simp
  refine wpList_build hg 39 _ ho (by rw [e, built_dig2]; rfl) ?_
  rw [e, built_dig2]
  exact h
theorem wpList_dig1 (hg : o.guard = none) (x : Operand) (ho : o.op = .build 39 #[(0, x)]) (A : Int) (hx : a.eval x = .int .u8 A)
    (h : wpList Tryz.prog ops Q rest (a.put o.dst (.agg (dig1 A).toArray)) w) : wpList Tryz.prog ops Q (o :: rest) a w := by
  have e : (#[((0 : Nat), x)].map fun (i, z) => (i, a.eval z)).toList = [(0, .int .u8 A)] := by rw [← hx]; simp
  refine wpList_build hg 39 _ ho (by rw [e, built_dig1]; rfl) ?_
  rw [e, built_dig1]
  exact h
theorem wpList_ent2 (hg : o.guard = none) (x y : Operand) (ho : o.op = .build 41 #[(1, x), (2, y)]) (k A B : Int) (hx : a.eval x = .int .i64 k) (hy : a.eval y = .agg (dig2 A B).toArray)
    (h : wpList Tryz.prog ops Q rest (a.put o.dst (.agg (EV.mk [] k [A, B]).cells.toArray)) w) : wpList Tryz.prog ops Q (o :: rest) a w := by
  have e : (#[((1 : Nat), x), (2, y)].map fun (i, z) => (i, a.eval z)).toList = [(1, .int .i64 k), (2, .agg (dig2 A B).toArray)] := by rw [← hx, ← hy]; simp
  refine wpList_build hg 41 _ ho (by rw [e, built_ent2]; rfl) ?_
  rw [e, built_ent2]
  exact h
theorem wpList_ent1 (hg : o.guard = none) (x y : Operand) (ho : o.op = .build 41 #[(1, x), (2, y)]) (k A : Int) (hx : a.eval x = .int .i64 k) (hy : a.eval y = .agg (dig1 A).toArray)
    (h : wpList Tryz.prog ops Q rest (a.put o.dst (.agg (EV.mk [] k [A]).cells.toArray)) w) : wpList Tryz.prog ops Q (o :: rest) a w := by
  have e : (#[((1 : Nat), x), (2, y)].map fun (i, z) => (i, a.eval z)).toList = [(1, .int .i64 k), (2, .agg (dig1 A).toArray)] := by rw [← hx, ← hy]; simp
  refine wpList_build hg 41 _ ho (by rw [e, built_ent1]; rfl) ?_
  rw [e, built_ent1]
  exact h
theorem yields_dig1 {S : World → Prop} (hw : Region.wanted o (yielded ops a.tmps) = true) (x : Operand) (ho : o.op = .build 39 #[(0, x)]) (A : Int) (hx : a.eval x = .int .u8 A) : YieldsIf Tryz.prog ops S o (.agg (dig1 A).toArray) a :=
  .inl ⟨hw, fun w _ => by
    have e : (#[((0 : Nat), x)].map fun (i, z) => (i, a.eval z)).toList = [(0, .int .u8 A)] := by rw [← hx]; simp
    unfold execOp
    simp only [ho, Sem.run_bind, Sem.run_pure, run_build w 39 _ _ (show Tryz.prog.built 39 (Array.map (fun (z : Nat × Operand) => (z.fst, a.eval z.snd)) #[((0 : Nat), x)]).toList = some (dig1 A).toArray from by rw [← built_dig1 A, ← e]), Result.andThen_ok]⟩
theorem yields_ent1 {S : World → Prop} (hw : Region.wanted o (yielded ops a.tmps) = true) (x y : Operand) (ho : o.op = .build 41 #[(1, x), (2, y)]) (k A : Int) (hx : a.eval x = .int .i64 k) (hy : a.eval y = .agg (dig1 A).toArray) : YieldsIf Tryz.prog ops S o (.agg (EV.mk [] k [A]).cells.toArray) a :=
  .inl ⟨hw, fun w _ => by
    have e : (#[((1 : Nat), x), (2, y)].map fun (i, z) => (i, a.eval z)).toList = [(1, .int .i64 k), (2, .agg (dig1 A).toArray)] := by rw [← hx, ← hy]; simp
    unfold execOp
    simp only [ho, Sem.run_bind, Sem.run_pure, run_build w 41 _ _ (show Tryz.prog.built 41 (Array.map (fun (z : Nat × Operand) => (z.fst, a.eval z.snd)) #[((1 : Nat), x), (2, y)]).toList = some (EV.mk [] k [A]).cells.toArray from by rw [← built_ent1 k A, ← e]), Result.andThen_ok]⟩
theorem yields_ent2 {S : World → Prop} (hw : Region.wanted o (yielded ops a.tmps) = true) (x y : Operand) (ho : o.op = .build 41 #[(1, x), (2, y)]) (k A B : Int) (hx : a.eval x = .int .i64 k) (hy : a.eval y = .agg (dig2 A B).toArray) : YieldsIf Tryz.prog ops S o (.agg (EV.mk [] k [A, B]).cells.toArray) a :=
  .inl ⟨hw, fun w _ => by
    have e : (#[((1 : Nat), x), (2, y)].map fun (i, z) => (i, a.eval z)).toList = [(1, .int .i64 k), (2, .agg (dig2 A B).toArray)] := by rw [← hx, ← hy]; simp
    unfold execOp
    simp only [ho, Sem.run_bind, Sem.run_pure, run_build w 41 _ _ (show Tryz.prog.built 41 (Array.map (fun (z : Nat × Operand) => (z.fst, a.eval z.snd)) #[((1 : Nat), x), (2, y)]).toList = some (EV.mk [] k [A, B]).cells.toArray from by rw [← built_ent2 k A B, ← e]), Result.andThen_ok]⟩
end

def mkX (i k : Nat) : EV := ⟨[], 5000 + (i : Int), [(k : Int) % 256, (k : Int) / 256 % 256]⟩
def anX (i k : Nat) : EV := ⟨[], -10 - (i : Int), [(k : Int)]⟩
def mkE (i k : Nat) : List Value := (mkX i k).cells
def anE (i k : Nat) : List Value := (anX i k).cells
theorem mkE_len (i k : Nat) : (mkE i k).length = 34 := EV.clen _ (show 2 ≤ 32 by decide)
theorem anE_len (i k : Nat) : (anE i k).length = 34 := EV.clen _ (show 1 ≤ 32 by decide)
theorem yields_same {ops : Array Oper} {S : World → Prop} {o : Oper} {a : Act} (hw : Region.wanted o (yielded ops a.tmps) = true) (x y : Operand) (ho : o.op = .binOp .neq 41 x y 41) (Y : EV) (hY : Y.fr.length ≤ 32) (hx : a.eval x = .agg Y.cells.toArray) (hy : a.eval y = .agg Y.cells.toArray) :
    YieldsIf Tryz.prog ops S o (.bool false) a := by
  have := yields_neq47 (S := S) hw x y ho Y Y hY hY hx hy
  rw [eqE_refl] at this
  exact this
theorem kept_rowE (w : World) (g : Nat) (cs : Array Value) : Kept (fun k => k = g) w (w.setRow g cs) :=
  ⟨rfl, rfl, rfl, by simp [World.setRow], fun k _ hn => setRow_other _ _ _ _ hn⟩
theorem range_new {w : World} {g : Nat} {cs : List Value} {t : TypeId} {f : Nat × Nat} (h : w.heap[g]? = some (.cells cs.toArray t f)) : w.rangeAt g 0 cs := fun j v hv => by
  rw [cell_of_row _ _ _ _ _ _ h, Nat.zero_add]
  simpa using hv
theorem range_kept {w w' : World} {g o : Nat} {cs : List Value} (hk : Kept (fun _ => False) w w') (h : w.rangeAt g o cs) : w'.rangeAt g o cs := fun j v hv => hk.cell (h j v hv) (fun f => f)
/-- A new variable of an entry, and what is stored there. -/
theorem new_varE (w : World) (y : EV) (hy : y.fr.length ≤ 32) : ∃ Z : Array Value, Z = entA ⟨#[]⟩ 0 [] ∧ Z.size = y.cells.toArray.size ∧ (w.alloc (.cells Z 41)).heap[w.heap.size]? = some (.cells Z 41 (0, 0)) ∧
    ((w.alloc (.cells Z 41)).setRow w.heap.size y.cells.toArray).heap[w.heap.size]? = some (.cells y.cells.toArray 41 (0, 0)) ∧ Kept (fun _ => False) w ((w.alloc (.cells Z 41)).setRow w.heap.size y.cells.toArray) := by
  have hO := heap_alloc_new w (.cells (entA ⟨#[]⟩ 0 []) 41)
  refine ⟨_, rfl, ?_, hO, setRow_heap _ w.heap.size _ y.cells.toArray 41 (0, 0) hO, ?_⟩
  · rw [entA_size _ _ _ (by decide), List.size_toArray, EV.clen y hy]
  · exact ((Kept.refl (fun _ => False) w).alloc _).step (kept_rowE _ w.heap.size _) (fun i hi e => by omega)
def dig0 : Array Value := (List.replicate 32 (Value.int .u8 0)).toArray
theorem dig0_new : dig0 = #[.int .u8 0, .int .u8 0, .int .u8 0, .int .u8 0, .int .u8 0, .int .u8 0, .int .u8 0, .int .u8 0, .int .u8 0, .int .u8 0, .int .u8 0, .int .u8 0, .int .u8 0, .int .u8 0, .int .u8 0, .int .u8 0, .int .u8 0, .int .u8 0, .int .u8 0, .int .u8 0, .int .u8 0, .int .u8 0, .int .u8 0, .int .u8 0, .int .u8 0, .int .u8 0, .int .u8 0, .int .u8 0, .int .u8 0, .int .u8 0, .int .u8 0, .int .u8 0] := by rfl
theorem new_varD (w : World) (d : List Value) (hd : d.length = 32) : ∃ Z : Array Value, Z = dig0 ∧ Z.size = d.toArray.size ∧ (w.alloc (.cells Z 39)).heap[w.heap.size]? = some (.cells Z 39 (0, 0)) ∧
    ((w.alloc (.cells Z 39)).setRow w.heap.size d.toArray).heap[w.heap.size]? = some (.cells d.toArray 39 (0, 0)) ∧ Kept (fun _ => False) w ((w.alloc (.cells Z 39)).setRow w.heap.size d.toArray) := by
  have hO := heap_alloc_new w (.cells dig0 39)
  refine ⟨_, rfl, ?_, hO, setRow_heap _ w.heap.size _ d.toArray 39 (0, 0) hO, ?_⟩
  · exact (show dig0.size = d.length from by rw [hd]; rfl)
  · exact ((Kept.refl (fun _ => False) w).alloc _).step (kept_rowE _ w.heap.size _) (fun i hi e => by omega)
theorem dig2_one (A B : Int) : ∀ u ∈ dig2 A B, u.oneCell' = true := by
  intro u hu
  obtain ⟨x, _, rfl⟩ := List.mem_map.1 hu
  rfl
end Go.Proofs.YtcpkbajmilkhpabGreatDoor

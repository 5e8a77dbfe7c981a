/-
  == between arrays of bytes, and between entries.
-/
import Derived.Test.YtcpkbajmilkhpabGreatDoorNap
import Derived.Laws.StructEq
namespace Go.Proofs.YtcpkbajmilkhpabGreatDoor
open Go.RowKit
set_option linter.unusedVariables false
set_option linter.unusedSimpArgs false

theorem part_at (w : World) (cs : Array Value) (i : Nat) (v : Value) (h : cs[i]? = some v) : (part 5 cs (i * 1)).run Tryz.prog w = .ok v w := by
  simp [part, Tryz.isAgg5, h]

theorem run_forIn_all {P : Program} {w : World} (f : Nat → Option Bool × Unit → Sem (ForInStep (Option Bool × Unit))) (q : Nat → Bool) :
    ∀ l : List Nat, (∀ i ∈ l, ∀ s, (f i s).run P w = .ok (if q i then .yield (none, ()) else .done (some false, ())) w) → (forIn l (none, ()) f).run P w = .ok (if l.all q then (none, ()) else (some false, ())) w
  | [], _ => by simp [Sem.run_pure]
  | i :: l, hf => by
    simp only [List.forIn_cons, Sem.run_bind, hf i (List.mem_cons_self ..), Result.andThen_ok, List.all_cons]
    by_cases hq : q i = true
    · simp [hq, run_forIn_all f q l (fun j hj => hf j (List.mem_cons_of_mem _ hj))]
    · simp [hq, Sem.run_pure]

theorem all_eq (n : Nat) (xs ys : List Int) (hx : xs.length = n) (hy : ys.length = n) : ((List.range' 0 n 1).all fun i => xs.getD i 0 == ys.getD i 0) = decide (xs = ys) := by
  rw [Bool.eq_iff_iff, List.all_eq_true, decide_eq_true_iff]
  constructor
  · intro h
    apply List.ext_getElem (by omega)
    intro i h1 h2
    have := h i (by simp [List.mem_range'_1]; omega)
    simpa [List.getD, List.getElem?_eq_getElem h1, List.getElem?_eq_getElem h2] using this
  · rintro rfl i _
    simp

theorem run_eq_arr (w : World) (d : Nat) (t : TypeId) (n : Nat) (xs ys : List Int) (ht : Tryz.prog.underlying t = some (.array n 5)) (hx : xs.length = n) (hy : ys.length = n) :
    (Op.equalIn (d + 2) t (.agg (xs.map (Value.int .u8)).toArray) (.agg (ys.map (Value.int .u8)).toArray)).run Tryz.prog w = .ok (decide (xs = ys)) w := by
  have hb : ∀ i, i < n → (part 5 (xs.map (Value.int .u8)).toArray (i * 1)).run Tryz.prog w = .ok (.int .u8 (xs.getD i 0)) w := fun i hi => part_at w _ i _ (by simp [List.getD, List.getElem?_eq_getElem (show i < xs.length by omega)])
  have hc : ∀ i, i < n → (part 5 (ys.map (Value.int .u8)).toArray (i * 1)).run Tryz.prog w = .ok (.int .u8 (ys.getD i 0)) w := fun i hi => part_at w _ i _ (by simp [List.getD, List.getElem?_eq_getElem (show i < ys.length by omega)])
  unfold Op.equalIn
  simp only [Sem.run_bind, run_underlying ht, Result.andThen_ok, Tryz.sizeOf5, Std.Legacy.Range.forIn_eq_forIn_range']
  rw [run_forIn_all _ (fun i => xs.getD i 0 == ys.getD i 0) (List.range' 0 [:n].size) (fun i hi s => ?_)]
  · rw [show [:n].size = n by simp [Std.Legacy.Range.size], all_eq n xs ys hx hy]
    by_cases h : xs = ys
    · simp [h, Sem.run_pure]
    · simp [h, Sem.run_pure]
  · have hn : i < n := by
      simp [Std.Legacy.Range.size, List.mem_range'_1] at hi
      exact hi
    simp only [Sem.run_bind, hb i hn, hc i hn, Result.andThen_ok, run_equalIn_int w d 5 .u8 .u8 _ _ Tryz.underlying5]
    generalize xs.getD i 0 = x
    generalize ys.getD i 0 = y
    by_cases h : x = y
    · simp [h, Sem.run_pure]
    · simp [h, Sem.run_pure]

theorem run_eql32 (w : World) (t : TypeId) (xs ys : List Int) (ht : Tryz.prog.underlying t = some (.array 32 5)) (hx : xs.length = 32) (hy : ys.length = 32) :
    (binOp .eql t (.agg (xs.map (Value.int .u8)).toArray) (.agg (ys.map (Value.int .u8)).toArray)).run Tryz.prog w = .ok (.bool (decide (xs = ys))) w := by
  rw [run_eql_struct, run_eq_arr w 9998 t 32 xs ys ht hx hy]
  rfl
theorem run_neq32 (w : World) (t : TypeId) (xs ys : List Int) (ht : Tryz.prog.underlying t = some (.array 32 5)) (hx : xs.length = 32) (hy : ys.length = 32) :
    (binOp .neq t (.agg (xs.map (Value.int .u8)).toArray) (.agg (ys.map (Value.int .u8)).toArray)).run Tryz.prog w = .ok (.bool (!decide (xs = ys))) w := by
  rw [run_neq_struct, run_eq_arr w 9998 t 32 xs ys ht hx hy]
  rfl

/-- A digest's bytes, whole. -/
def EV.dig (y : EV) : List Int := y.fr ++ List.replicate (32 - y.fr.length) 0
theorem EV.dig_len (y : EV) (h : y.fr.length ≤ 32) : y.dig.length = 32 := by
  simp [EV.dig]
  omega
theorem EV.cells_dig (y : EV) : y.cells = .string (str y.nm) :: .int .i64 y.k :: y.dig.map (Value.int .u8) := rfl
/-- Are two entries the same? -/
def eqE (y z : EV) : Bool := (str y.nm).toList == (str z.nm).toList && (y.k == z.k && decide (y.dig = z.dig))
theorem eqE_refl (y : EV) : eqE y y = true := by simp [eqE]

theorem part_name (w : World) (y : EV) : (part 9 y.cells.toArray 0).run Tryz.prog w = .ok (.string (str y.nm)) w := by
  simp [part, Tryz.isAgg9, EV.cells]
theorem part_kind (w : World) (y : EV) : (part 3 y.cells.toArray 1).run Tryz.prog w = .ok (.int .i64 y.k) w := by
  simp [part, Tryz.isAgg3, EV.cells]
theorem part_dig (w : World) (y : EV) (h : y.fr.length ≤ 32) : (part 39 y.cells.toArray 2).run Tryz.prog w = .ok (.agg (y.dig.map (Value.int .u8)).toArray) w := by
  have hl := y.dig_len h
  have e : y.cells.toArray.extract 2 (2 + 32) = (y.dig.map (Value.int .u8)).toArray := by
    rw [EV.cells_dig, List.extract_toArray, List.extract_eq_take_drop, show 2 + 32 - 2 = 32 from rfl]
    simp only [List.drop_succ_cons, List.drop_zero]
    rw [List.take_of_length_le (by rw [List.length_map, hl]; exact Nat.le_refl _)]
  simp only [part, Sem.run_bind, Tryz.isAgg39, Result.andThen_ok, if_true, Tryz.sizeOf39, Sem.run_pure, e]
theorem fields47 : Tryz.prog.underlying 41 = some (.struct (Tryz.prog.fieldsOf 41)) := by kernel_rfl
theorem held47 : Tryz.prog.stoodInHeld 41 = false := by kernel_rfl

theorem eq_fields (d : Nat) (xs ys : Array Value) (f0 f1 f2 : Field) (h0 : f0.name ≠ "_") (h1 : f1.name ≠ "_") (h2 : f2.name ≠ "_") (a0 a1 a2 b0 b1 b2 : Value) (w : World) (q0 q1 q2 : Bool)
    (pa0 : (part f0.type xs f0.offset).run Tryz.prog w = .ok a0 w) (pa1 : (part f1.type xs f1.offset).run Tryz.prog w = .ok a1 w) (pa2 : (part f2.type xs f2.offset).run Tryz.prog w = .ok a2 w)
    (pb0 : (part f0.type ys f0.offset).run Tryz.prog w = .ok b0 w) (pb1 : (part f1.type ys f1.offset).run Tryz.prog w = .ok b1 w) (pb2 : (part f2.type ys f2.offset).run Tryz.prog w = .ok b2 w)
    (e0 : (Op.equalIn d f0.type a0 b0).run Tryz.prog w = .ok q0 w) (e1 : (Op.equalIn d f1.type a1 b1).run Tryz.prog w = .ok q1 w) (e2 : (Op.equalIn d f2.type a2 b2).run Tryz.prog w = .ok q2 w) :
    (Op.eqFields d xs ys [f0, f1, f2]).run Tryz.prog w = .ok (q0 && (q1 && q2)) w := by
  simp only [Op.eqFields, if_pos h0, if_pos h1, if_pos h2, Sem.run_bind, pa0, pb0, e0, Result.andThen_ok]
  cases q0
  · simp [Sem.run_pure]
  · simp only [Bool.not_true, Bool.false_eq_true, if_false, Sem.run_bind, pa1, pb1, e1, Result.andThen_ok]
    cases q1
    · simp [Sem.run_pure]
    · simp only [Bool.not_true, Bool.false_eq_true, if_false, Sem.run_bind, pa2, pb2, e2, Result.andThen_ok]
      cases q2 <;> simp [Sem.run_pure]

theorem run_eq47 (w : World) (y z : EV) (hy : y.fr.length ≤ 32) (hz : z.fr.length ≤ 32) :
    (Op.equalIn 10000 41 (.agg y.cells.toArray) (.agg z.cells.toArray)).run Tryz.prog w = .ok (eqE y z) w := by
  rw [run_equalIn_struct w 9999 41 _ _ fields47 held47]
  simp only [Program.fieldsOf, Tryz.underlying41]
  exact eq_fields 9999 _ _ _ _ _ (by decide) (by decide) (by decide) _ _ _ _ _ _ w _ _ _ (part_name w y) (part_kind w y) (part_dig w y hy) (part_name w z) (part_kind w z) (part_dig w z hz)
    (run_equalIn_string w 9998 9 _ _ Tryz.underlying9) (run_equalIn_int w 9998 3 .i64 .i64 _ _ Tryz.underlying3) (run_eq_arr w 9997 39 32 _ _ Tryz.underlying39 (y.dig_len hy) (z.dig_len hz))
theorem run_neq47 (w : World) (y z : EV) (hy : y.fr.length ≤ 32) (hz : z.fr.length ≤ 32) :
    (binOp .neq 41 (.agg y.cells.toArray) (.agg z.cells.toArray)).run Tryz.prog w = .ok (.bool (!eqE y z)) w := by
  rw [run_neq_struct, run_eq47 w y z hy hz]
  rfl
theorem run_eql47 (w : World) (y z : EV) (hy : y.fr.length ≤ 32) (hz : z.fr.length ≤ 32) :
    (binOp .eql 41 (.agg y.cells.toArray) (.agg z.cells.toArray)).run Tryz.prog w = .ok (.bool (eqE y z)) w := by
  rw [run_eql_struct, run_eq47 w y z hy hz]
  rfl
end Go.Proofs.YtcpkbajmilkhpabGreatDoor

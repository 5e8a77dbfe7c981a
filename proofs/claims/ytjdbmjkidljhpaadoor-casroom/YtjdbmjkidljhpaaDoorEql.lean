/-
  == between arrays of bytes.
-/
import Derived.Test.YtjdbmjkidljhpaaDoorMem
import Derived.Laws.StructEq
namespace Go.Proofs.YtjdbmjkidljhpaaDoor
open Go.RowKit
set_option linter.unusedVariables false
set_option linter.unusedSimpArgs false

theorem part_at (w : World) (cs : Array Value) (i : Nat) (v : Value) (h : cs[i]? = some v) : (part 5 cs (i * 1)).run Tryd.prog w = .ok v w := by
  simp [part, Tryd.isAgg5, h]

theorem run_forIn_all {P : Program} {w : World} (f : Nat → Option Bool × Unit → Sem (ForInStep (Option Bool × Unit))) (q : Nat → Bool) :
    ∀ l : List Nat, (∀ i ∈ l, ∀ s, (f i s).run P w = .ok (if q i then .yield (none, ()) else .done (some false, ())) w) → (forIn l (none, ()) f).run P w = .ok (if l.all q then (none, ()) else (some false, ())) w
  | [], _ => by simp [Sem.run_pure]
  | i :: l, hf => by
    simp only [List.forIn_cons, Sem.run_bind, hf i (List.mem_cons_self ..), Result.andThen_ok, List.all_cons]
    by_cases hq : q i = true
    · simp [hq, run_forIn_all f q l (fun j hj => hf j (List.mem_cons_of_mem _ hj))]
    · simp [hq, Sem.run_pure]

theorem all_eq (n : Nat) (xs ys : List Int) (hx : xs.length = n) (hy : ys.length = n) : ((List.range' 0 n 1).all fun i => xs.getD i 0 == ys.getD i 0) = decide (xs = ys) := by
  rw [Bool.eq_iff_iff, List.all_eq_true, decide_eq_true_iff]
  constructor
  · intro h
    apply List.ext_getElem (by omega)
    intro i h1 h2
    have := h i (by simp [List.mem_range'_1]; omega)
    simpa [List.getD, List.getElem?_eq_getElem h1, List.getElem?_eq_getElem h2] using this
  · rintro rfl i _
    simp

theorem run_eq_arr (w : World) (d : Nat) (t : TypeId) (n : Nat) (xs ys : List Int) (ht : Tryd.prog.underlying t = some (.array n 5)) (hx : xs.length = n) (hy : ys.length = n) :
    (Op.equalIn (d + 2) t (.agg (xs.map (Value.int .u8)).toArray) (.agg (ys.map (Value.int .u8)).toArray)).run Tryd.prog w = .ok (decide (xs = ys)) w := by
  have hb : ∀ i, i < n → (part 5 (xs.map (Value.int .u8)).toArray (i * 1)).run Tryd.prog w = .ok (.int .u8 (xs.getD i 0)) w := fun i hi => part_at w _ i _ (by simp [List.getD, List.getElem?_eq_getElem (show i < xs.length by omega)])
  have hc : ∀ i, i < n → (part 5 (ys.map (Value.int .u8)).toArray (i * 1)).run Tryd.prog w = .ok (.int .u8 (ys.getD i 0)) w := fun i hi => part_at w _ i _ (by simp [List.getD, List.getElem?_eq_getElem (show i < ys.length by omega)])
  unfold Op.equalIn
  simp only [Sem.run_bind, run_underlying ht, Result.andThen_ok, Tryd.sizeOf5, Std.Legacy.Range.forIn_eq_forIn_range']
  rw [run_forIn_all _ (fun i => xs.getD i 0 == ys.getD i 0) (List.range' 0 [:n].size) (fun i hi s => ?_)]
  · rw [show [:n].size = n by simp [Std.Legacy.Range.size], all_eq n xs ys hx hy]
    by_cases h : xs = ys
    · simp [h, Sem.run_pure]
    · simp [h, Sem.run_pure]
  · have hn : i < n := by
      simp [Std.Legacy.Range.size, List.mem_range'_1] at hi
      exact hi
    simp only [Sem.run_bind, hb i hn, hc i hn, Result.andThen_ok, run_equalIn_int w d 5 .u8 .u8 _ _ Tryd.underlying5]
    generalize xs.getD i 0 = x
    generalize ys.getD i 0 = y
    by_cases h : x = y
    · simp [h, Sem.run_pure]
    · simp [h, Sem.run_pure]

theorem run_eql32 (w : World) (t : TypeId) (xs ys : List Int) (ht : Tryd.prog.underlying t = some (.array 32 5)) (hx : xs.length = 32) (hy : ys.length = 32) :
    (binOp .eql t (.agg (xs.map (Value.int .u8)).toArray) (.agg (ys.map (Value.int .u8)).toArray)).run Tryd.prog w = .ok (.bool (decide (xs = ys))) w := by
  rw [run_eql_struct, run_eq_arr w 9998 t 32 xs ys ht hx hy]
  rfl
theorem run_neq32 (w : World) (t : TypeId) (xs ys : List Int) (ht : Tryd.prog.underlying t = some (.array 32 5)) (hx : xs.length = 32) (hy : ys.length = 32) :
    (binOp .neq t (.agg (xs.map (Value.int .u8)).toArray) (.agg (ys.map (Value.int .u8)).toArray)).run Tryd.prog w = .ok (.bool (!decide (xs = ys))) w := by
  rw [run_neq_struct, run_eq_arr w 9998 t 32 xs ys ht hx hy]
  rfl
end Go.Proofs.YtjdbmjkidljhpaaDoor

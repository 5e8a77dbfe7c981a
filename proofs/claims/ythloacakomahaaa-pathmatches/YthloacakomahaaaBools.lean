/-
  Rows of bools in memory.
-/
import Derived.Test.YthloacakomahaaaRow
namespace Go.Proofs.Ythloacakomahaaa
open Go.RowKit
set_option linter.unusedVariables false
set_option linter.unusedSimpArgs false

theorem info4 : (Try.prog.info? 4).map (fun i => (i.zero, i.size, i.bytes)) = some (some (.bool false), 1, 1) := by kernel_rfl
def falses (n : Nat) : Array Value := madeCells (Value.bool false).cells n
theorem falses_at (n i : Nat) (h : i < n) : (falses n)[i]? = some (.bool false) := by
  simp [falses, madeCells, h, Value.cells, Nat.mod_one]
theorem make_bools (W : World) (l : Nat) (h : l ≤ 1099511627776) : (Instr.makeSlice 65 (.int .i64 (l : Int)) (.int .i64 (l : Int))).run Try.prog W = .ok (.slice (some ⟨W.heap.size, 0, none⟩) l l) (W.alloc (.cells (falses l) 4)) := by
  obtain ⟨i0, hi, hz0, hz1, hz2⟩ := info_parts info4
  have := run_make (P := Try.prog) W 65 4 i0 (.bool false) Try.underlying65 hi hz0 .i64 .i64 (l : Int) (l : Int) (by omega) (by omega) (by rw [hz2]; omega) (by omega)
  simpa [falses, hz1] using this

/-- A block of so many bools. -/
def Bs (W : World) (b n : Nat) (f : Nat → Bool) : Prop := ∃ cur : Array Value, W.heap[b]? = some (.cells cur 4 (0, 0)) ∧ cur.size = n ∧ ∀ i, i < n → cur[i]? = some (.bool (f i))

variable {W W' : World} {b n k : Nat} {f : Nat → Bool}
theorem Bs.lt (h : Bs W b n f) : b < W.heap.size := by
  obtain ⟨cur, h0, _⟩ := h
  exact (Array.getElem?_eq_some_iff.1 h0).1
theorem Bs.cell (h : Bs W b n f) (hk : k < n) : W.cell? ⟨b, k, none⟩ = some (.bool (f k)) := by
  obtain ⟨cur, h0, h1, h2⟩ := h
  rw [cell_block _ _ _ _ _ _ h0]
  exact h2 k hk
theorem Bs.free (h : Bs W b n f) : W.frozen? ⟨b, k, none⟩ = false := by
  obtain ⟨cur, h0, h1, h2⟩ := h
  exact frozen_block _ _ _ _ _ h0
theorem Bs.keep (h : Bs W b n f) (hk : Kept (fun _ => False) W W') : Bs W' b n f := by
  obtain ⟨cur, h0, h1⟩ := h
  exact ⟨cur, (hk.block b (Array.getElem?_eq_some_iff.1 h0).1 (fun e => e)).trans h0, h1⟩
theorem Bs.set (h : Bs W b n f) (hk : k < n) (v : Bool) : Bs (W.setCell ⟨b, k, none⟩ (.bool v)) b n (fun i => if i = k then v else f i) := by
  obtain ⟨cur, h0, h1, h2⟩ := h
  refine ⟨_, set_block _ _ _ _ _ _ h0 _, by simp [h1], fun i hi => ?_⟩
  rw [Array.getElem?_setIfInBounds]
  by_cases e : k = i
  · subst e
    rw [if_pos rfl, if_pos (by omega)]
    simp
  · rw [if_neg e]
    show cur[i]? = some (.bool (if i = k then v else f i))
    rw [if_neg (fun h => e h.symm)]
    exact h2 i hi
theorem Bs.far (h : Bs W b n f) {b' : Nat} (hb : b ≠ b') (v : Value) : Bs (W.setCell ⟨b', k, none⟩ v) b n f := by
  obtain ⟨cur, h0, h1⟩ := h
  refine ⟨cur, ?_, h1⟩
  rw [← h0]
  exact Below.heap_setCell _ _ _ _ hb
theorem Bs.new (W : World) (n : Nat) : Bs (W.alloc (.cells (falses n) 4)) W.heap.size n (fun _ => false) :=
  ⟨falses n, alloc_new W _ rfl, size_madeCells _ n, fun i hi => falses_at n i hi⟩
theorem Bs.same {g : Nat → Bool} (h : Bs W b n f) (e : ∀ i, i < n → f i = g i) : Bs W b n g := by
  obtain ⟨cur, h0, h1, h2⟩ := h
  exact ⟨cur, h0, h1, fun i hi => by rw [h2 i hi, e i hi]⟩
end Go.Proofs.Ythloacakomahaaa

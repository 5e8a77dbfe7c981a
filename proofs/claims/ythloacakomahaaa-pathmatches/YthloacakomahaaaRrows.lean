/-
  Rows of rows of bools in memory.
-/
import Derived.Test.YthloacakomahaaaBools
namespace Go.Proofs.Ythloacakomahaaa
open Go.RowKit
set_option linter.unusedVariables false
set_option linter.unusedSimpArgs false

theorem info65 : (Try.prog.info? 65).map (fun i => (i.zero, i.size, i.bytes)) = some (some (.slice none 0 0), 1, 24) := by kernel_rfl
def nones (n : Nat) : Array Value := madeCells (Value.slice none 0 0).cells n
theorem make_nones (W : World) (l : Nat) (h : l ≤ 1099511627776) : (Instr.makeSlice 66 (.int .i64 (l : Int)) (.int .i64 (l : Int))).run Try.prog W = .ok (.slice (some ⟨W.heap.size, 0, none⟩) l l) (W.alloc (.cells (nones l) 65)) := by
  obtain ⟨i0, hi, hz0, hz1, hz2⟩ := info_parts info65
  have := run_make (P := Try.prog) W 66 65 i0 (.slice none 0 0) Try.underlying66 hi hz0 .i64 .i64 (l : Int) (l : Int) (by omega) (by omega) (by rw [hz2]; omega) (by omega)
  simpa [nones, hz1] using this

theorem Bs.kept {W W' : World} {b n : Nat} {f : Nat → Bool} {S : Nat → Prop} (h : Bs W b n f) (hk : Kept S W W') (hs : ¬ S b) : Bs W' b n f := by
  obtain ⟨cur, h0, h1⟩ := h
  exact ⟨cur, (hk.block b (Array.getElem?_eq_some_iff.1 h0).1 hs).trans h0, h1⟩

/-- So many rows of bools, by their blocks, in a block. -/
structure Rs (W : World) (bo M i n : Nat) (bs : Nat → Nat) (ta : Nat → Nat → Bool) : Prop where
  row : ∃ cur : Array Value, W.heap[bo]? = some (.cells cur 65 (0, 0)) ∧ cur.size = M ∧ ∀ j, j < i → cur[j]? = some (.slice (some ⟨bs j, 0, none⟩) n n)
  bools : ∀ j, j < i → Bs W (bs j) n (ta j)
  far : ∀ j, j < i → bo < bs j

variable {W W' : World} {bo M i n : Nat} {bs : Nat → Nat} {ta : Nat → Nat → Bool}

theorem Rs.new (W : World) (M n : Nat) (bs : Nat → Nat) (ta : Nat → Nat → Bool) : Rs (W.alloc (.cells (nones M) 65)) W.heap.size M 0 n bs ta :=
  ⟨⟨nones M, alloc_new W _ rfl, size_madeCells _ M, fun j hj => by omega⟩, fun j hj => by omega, fun j hj => by omega⟩
theorem Rs.lt (h : Rs W bo M i n bs ta) : bo < W.heap.size := by
  obtain ⟨cur, h0, _⟩ := h.row
  exact (Array.getElem?_eq_some_iff.1 h0).1
theorem Rs.kept {S : Nat → Prop} (h : Rs W bo M i n bs ta) (hk : Kept S W W') (hs : ∀ k, k < W.heap.size → ¬ S k) : Rs W' bo M i n bs ta := by
  refine ⟨?_, fun j hj => (h.bools j hj).kept hk (hs _ (h.bools j hj).lt), h.far⟩
  obtain ⟨cur, h0, h1⟩ := h.row
  exact ⟨cur, (hk.block bo h.lt (hs _ h.lt)).trans h0, h1⟩
theorem Rs.set (h : Rs W bo M i n bs ta) {b o : Nat} (hb : b < bo) (v : Value) : Rs (W.setCell ⟨b, o, none⟩ v) bo M i n bs ta := by
  refine ⟨?_, fun j hj => (h.bools j hj).far (by have := h.far j hj; omega) v, h.far⟩
  obtain ⟨cur, h0, h1⟩ := h.row
  exact ⟨cur, (Below.heap_setCell _ _ _ _ (by show bo ≠ b; omega)).trans h0, h1⟩
theorem Rs.cell (h : Rs W bo M i n bs ta) {j : Nat} (hj : j < i) : W.cell? ⟨bo, j, none⟩ = some (.slice (some ⟨bs j, 0, none⟩) n n) := by
  obtain ⟨cur, h0, h1, h2⟩ := h.row
  rw [cell_block _ _ _ _ _ _ h0]
  exact h2 j hj
theorem Rs.there (h : Rs W bo M i n bs ta) {j : Nat} (hj : j < M) : (∃ u, W.cell? ⟨bo, j, none⟩ = some u) ∧ W.frozen? ⟨bo, j, none⟩ = false := by
  obtain ⟨cur, h0, h1, h2⟩ := h.row
  refine ⟨⟨cur[j]'(by omega), ?_⟩, frozen_block _ _ _ _ _ h0⟩
  rw [cell_block _ _ _ _ _ _ h0]
  exact Array.getElem?_eq_getElem (by omega)

/-- The world in which one row more is begun. -/
def rowed (W : World) (bo i n : Nat) : World := (W.alloc (.cells (falses n) 4)).setCell ⟨bo, i, none⟩ (.slice (some ⟨W.heap.size, 0, none⟩) n n)
theorem rowed_size (W : World) (bo i n : Nat) : (rowed W bo i n).heap.size = W.heap.size + 1 := by
  show ((W.alloc (.cells (falses n) 4)).heap.modify _ _).size = _
  rw [Array.size_modify]
  show (W.heap.push _).size = _
  rw [Array.size_push]
theorem Rs.begun (h : Rs W bo M i n bs ta) : Bs (rowed W bo i n) W.heap.size n (fun _ => false) :=
  (Bs.new W n).far (by have := h.lt; omega) _
theorem Rs.begun_cell (h : Rs W bo M i n bs ta) (hi : i < M) : (rowed W bo i n).cell? ⟨bo, i, none⟩ = some (.slice (some ⟨W.heap.size, 0, none⟩) n n) := by
  obtain ⟨cur, h0, h1, h2⟩ := h.row
  show ((W.alloc (.cells (falses n) 4)).setCell ⟨bo, i, none⟩ (.slice (some ⟨W.heap.size, 0, none⟩) n n)).cell? ⟨bo, i, none⟩ = _
  rw [cell_block _ _ _ _ _ _ (set_block _ _ _ _ _ _ (alloc_old h0) _), Array.getElem?_setIfInBounds, if_pos rfl, if_pos (by omega)]
theorem rowed_kept (W : World) (bo i n : Nat) : Kept (fun k => k = bo) W (rowed W bo i n) :=
  Kept.setCell (p := ⟨bo, i, none⟩) ((Kept.refl (fun k => k = bo) W).alloc (.cells (falses n) 4)) (.inr rfl) (.slice (some ⟨W.heap.size, 0, none⟩) n n)
theorem Rs.next (h : Rs W bo M i n bs ta) (hi : i < M) (hk : Kept (fun k => k = W.heap.size) (rowed W bo i n) W') (hB : Bs W' W.heap.size n (ta i)) :
    Rs W' bo M (i + 1) n (fun j => if j = i then W.heap.size else bs j) ta := by
  have hlt := h.lt
  obtain ⟨cur, h0, h1, h2⟩ := h.row
  have hs := rowed_size W bo i n
  have KR := rowed_kept W bo i n
  have hb : (rowed W bo i n).heap[bo]? = some (.cells (cur.setIfInBounds i (.slice (some ⟨W.heap.size, 0, none⟩) n n)) 65 (0, 0)) := set_block _ _ _ _ _ _ (alloc_old h0) _
  refine ⟨⟨_, (hk.block bo (by omega) (by omega)).trans hb, by simp [h1], fun j hj => ?_⟩, fun j hj => ?_, fun j hj => ?_⟩
  · rw [Array.getElem?_setIfInBounds]
    by_cases e : i = j
    · subst e
      rw [if_pos rfl, if_pos (by omega), if_pos rfl]
    · rw [if_neg e, if_neg (fun h => e h.symm)]
      exact h2 j (by omega)
  · by_cases e : j = i
    · subst e
      rw [if_pos rfl]
      exact hB
    · rw [if_neg e]
      have hj' : j < i := by omega
      have l1 := (h.bools j hj').lt
      have l2 := h.far j hj'
      exact ((h.bools j hj').kept KR (by omega)).kept hk (by omega)
  · show bo < if j = i then W.heap.size else bs j
    by_cases e : j = i
    · rw [if_pos e]
      exact hlt
    · rw [if_neg e]
      exact h.far j (by omega)
end Go.Proofs.Ythloacakomahaaa

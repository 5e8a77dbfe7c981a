/-
  The lists that SumOf hands in.
-/
import Derived.Test.YtdbogfjkaebeoaaDoorHeld
import Derived.Test.YtdbogfjkaebeoaaDoorRof
import Derived.Test.YtdbogfjkaebeoaaDoorEql
namespace Go.Proofs.YtdbogfjkaebeoaaDoor
open Go.RowKit
set_option linter.unusedVariables false
set_option linter.unusedSimpArgs false

theorem info25 : (Tryd.prog.info? 25).map (fun i => (i.zero, i.size, i.bytes)) = some (some (.slice none 0 0), 1, 24) := by kernel_rfl
def zsl (n : Nat) : Array Value := madeCells (Value.slice none 0 0).cells n
theorem zsl_size (n : Nat) : (zsl n).size = n := size_madeCells _ n
theorem make_parts (W : World) (l : Nat) (h : l * 24 ≤ 140737488355328) : (Instr.makeSlice 22 (.int .i64 (l : Int)) (.int .i64 (l : Int))).run Tryd.prog W = .ok (.slice (some ⟨W.heap.size, 0, none⟩) l l) (W.alloc (.cells (zsl l) 25)) := by
  obtain ⟨i0, hi, hz0, hz1, hz2⟩ := info_parts info25
  have := run_make (P := Tryd.prog) W 22 25 i0 (.slice none 0 0) Tryd.underlying22 hi hz0 .i64 .i64 (l : Int) (l : Int) (by omega) (by omega) (by rw [hz2]; omega) (by omega)
  simpa [zsl, hz1] using this

set_option maxRecDepth 100000 in
set_option maxHeartbeats 1000000 in
theorem gv_row (cs : Array Value) (hsz : cs.size = 32) (h1 : cs.all (·.oneCell') = true) (w : World) :
    Calls Tryd.prog 14 #[.agg cs] w fun e w' => e = .returned (.agg cs) ∧ Kept (fun _ => False) w w' := by
  have hs28 : (Tryd.prog.info? 28).map (·.size) = some cs.size := by rw [size28, hsz]
  have hs31 : (Tryd.prog.info? 31).map (·.size) = some cs.size := by rw [size31, hsz]
  have HOS : Hid (32 = cs.size) := hsz.symm
  clear hsz
  go_enter Tryd.func14, Tryd.ntmps14
  go_wp2_with (first | refine wpList_load_row rfl 28 _ rfl w.heap.size rfl 28 cs (0, 0) _ (alloc_old (alloc_new _ _ rfl)) Tryd.underlying28 rfl hs28 ?_ | (refine wpList_store_row rfl 31 _ _ rfl (w.heap.size + 1) cs rfl rfl 31 _ (alloc_new _ _ (by simp)) hs31 HOS.out h1 ?_; rw [setRow_new _ _ _ _ (by simp)]))
  try simp only [Act.put]
  refine bodyPost_ret (v := .agg cs) ?_ rfl ⟨rfl, ((Kept.refl _ w).alloc _).alloc _⟩
  exact results_cell_row (by rfl) _ _ (w.heap.size + 1) 31 cs (0, 0) _ (by rfl) (alloc_new _ _ (by simp)) Tryd.underlying31 rfl hs31

/-- The i-th of the lists that are handed in, as it lies. -/
def mineV (ls : List (List Int)) (bf : Nat → Nat) (i : Nat) : Value := if i < ls.length then .slice (some ⟨bf i, 0, none⟩) (ls.getD i []).length ((ls.getD i []).length + 67) else .slice (some ⟨bf i, 0, none⟩) 3 3
/-- It lies whole. -/
def MineAt (w : World) (ls : List (List Int)) (bf : Nat → Nat) (i : Nat) : Prop := if i < ls.length then Lent w (bf i) (ls.getD i []) 67 else w.heap[bf i]? = some (.cells #[.int .u8 1, .int .u8 2, .int .u8 3] 5 (0, 0))
theorem MineAt.kept {S : Nat → Prop} {w w' : World} {ls : List (List Int)} {bf : Nat → Nat} {i : Nat} (h : MineAt w ls bf i) (hk : Kept S w w') (hs : ¬ S (bf i)) : MineAt w' ls bf i := by
  unfold MineAt at *
  by_cases hi : i < ls.length
  · rw [if_pos hi] at *
    exact h.kept hk hs
  · rw [if_neg hi] at *
    exact (hk.block _ (heap_lt h) hs).trans h
theorem MineAt.lt {w : World} {ls : List (List Int)} {bf : Nat → Nat} {i : Nat} (h : MineAt w ls bf i) : bf i < w.heap.size := by
  unfold MineAt at h
  by_cases hi : i < ls.length
  · rw [if_pos hi] at h
    obtain ⟨cur, h0, _⟩ := h
    exact heap_lt h0
  · rw [if_neg hi] at h
    exact heap_lt h
/-- The first k of them. -/
structure Mine (w : World) (gm : Nat) (ls : List (List Int)) (bf : Nat → Nat) (k : Nat) : Prop where
  row : ∃ cur : Array Value, w.heap[gm]? = some (.cells cur 25 (0, 0)) ∧ cur.size = ls.length + 3 ∧ ∀ i, i < k → cur[i]? = some (mineV ls bf i)
  at_ : ∀ i, i < k → MineAt w ls bf i
  up : ∀ i j, i < j → j < k → bf i < bf j
  lo : ∀ i, i < k → gm < bf i
theorem Mine.kept {S : Nat → Prop} {w w' : World} {gm : Nat} {ls : List (List Int)} {bf : Nat → Nat} {k : Nat} (h : Mine w gm ls bf k) (hk : Kept S w w') (hg : ¬ S gm) (hs : ∀ i, i < k → ¬ S (bf i)) : Mine w' gm ls bf k := by
  obtain ⟨⟨cur, h0, h1, h2⟩, h3, h4, h5⟩ := h
  exact ⟨⟨cur, (hk.block _ (heap_lt h0) hg).trans h0, h1, h2⟩, fun i hi => (h3 i hi).kept hk (hs i hi), h4, h5⟩
theorem Mine.cell {w : World} {gm : Nat} {ls : List (List Int)} {bf : Nat → Nat} {k i : Nat} (h : Mine w gm ls bf k) (hi : i < k) : w.cell? ⟨gm, i, none⟩ = some (mineV ls bf i) := by
  obtain ⟨⟨cur, h0, h1, h2⟩, _⟩ := h
  rw [cell_block _ _ _ _ _ _ h0]
  exact h2 i hi
theorem Mine.there {w : World} {gm : Nat} {ls : List (List Int)} {bf : Nat → Nat} {k i : Nat} (h : Mine w gm ls bf k) (hi : i < ls.length + 3) : (∃ u, w.cell? ⟨gm, i, none⟩ = some u) ∧ w.frozen? ⟨gm, i, none⟩ = false := by
  obtain ⟨⟨cur, h0, h1, h2⟩, _⟩ := h
  refine ⟨⟨cur[i]'(by omega), ?_⟩, frozen_block _ _ _ _ _ h0⟩
  rw [cell_block _ _ _ _ _ _ h0]
  exact Array.getElem?_eq_getElem (by omega)
/-- One more. -/
theorem Mine.put {w : World} {gm : Nat} {ls : List (List Int)} {bf : Nat → Nat} {k b : Nat} (h : Mine w gm ls bf k) (hk : k < ls.length + 3) (hb : gm < b) (hu : ∀ i, i < k → bf i < b)
    (hm : MineAt w ls (fun i => if i = k then b else bf i) k) : Mine (w.setCell ⟨gm, k, none⟩ (mineV ls (fun i => if i = k then b else bf i) k)) gm ls (fun i => if i = k then b else bf i) (k + 1) := by
  obtain ⟨⟨cur, h0, h1, h2⟩, h3, h4, h5⟩ := h
  have hks := kept_set w ⟨gm, k, none⟩ (mineV ls (fun i => if i = k then b else bf i) k)
  refine ⟨⟨_, set_block _ _ _ _ _ _ h0 _, by simp [h1], fun i hi => ?_⟩, fun i hi => ?_, fun i j hij hj => ?_, fun i hi => ?_⟩
  · rw [Array.getElem?_setIfInBounds]
    by_cases e : k = i
    · subst e
      rw [if_pos rfl, if_pos (by omega)]
    · rw [if_neg e, h2 i (by omega)]
      unfold mineV
      simp only [if_neg (fun x : i = k => e x.symm)]
  · by_cases e : i = k
    · subst e
      exact hm.kept hks (by simp only [if_pos]; show ¬ (b = gm); omega)
    · have := (h3 i (by omega)).kept hks (by show ¬ (bf i = gm); have := h5 i (by omega); omega)
      unfold MineAt at *
      simp only [if_neg e]
      exact this
  · by_cases e : j = k
    · subst e
      simp only [if_neg (show ¬ i = j by omega), if_pos]
      exact hu i (by omega)
    · simp only [if_neg e, if_neg (show ¬ i = k by omega)]
      exact h4 i j hij (by omega)
  · by_cases e : i = k
    · simp only [if_pos e]
      exact hb
    · simp only [if_neg e]
      exact h5 i (by omega)
theorem Mine.pin {w : World} {gm c : Nat} {ls : List (List Int)} {bf : Nat → Nat} {k : Nat} (h : Mine w gm ls bf k) (hk : ls.length ≤ k) : PIn w (.slice (some ⟨gm, 0, none⟩) ls.length c) ls := by
  refine ⟨_, c, rfl, fun i hi => ⟨gm, 0, mineV ls bf i, rfl, ?_, ?_⟩⟩
  · rw [Nat.zero_add]
    exact h.cell (by omega)
  · have := h.at_ i (by omega)
    unfold MineAt at this
    rw [if_pos hi] at this
    unfold mineV
    rw [if_pos hi]
    exact this.bin
end Go.Proofs.YtdbogfjkaebeoaaDoor

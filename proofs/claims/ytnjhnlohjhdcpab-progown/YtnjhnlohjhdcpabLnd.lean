/-
  retortlaw2's Lend and Kept by contract.
-/
import Derived.Test.YtnjhnlohjhdcpabMc
namespace Go.Proofs.Ytnjhnlohjhdcpab
open Go.RowKit
set_option linter.unusedVariables false
set_option linter.unusedSimpArgs false

/-- A block that is lent: the bytes, and so many marks behind them. -/
def Lent2 (w : World) (g : Nat) (xs : List Int) (j : Nat) : Prop :=
  ∃ cur : Array Value, w.heap[g]? = some (.cells cur 5 (0, 0)) ∧ cur.size = xs.length + 67 ∧ (∀ i, i < xs.length → cur[i]? = some (.int .u8 (xs.getD i 0))) ∧ (∀ i, i < j → cur[xs.length + i]? = some (.int .u8 169))

theorem Lent2.cells {w : World} {g : Nat} {xs : List Int} {j k : Nat} (h : Lent2 w g xs j) (hk : k < xs.length + 67) : (∃ u, w.cell? ⟨g, k, none⟩ = some u) ∧ w.frozen? ⟨g, k, none⟩ = false := by
  obtain ⟨cur, h0, h1, h2, h3⟩ := h
  refine ⟨⟨cur[k]'(by omega), ?_⟩, frozen_block _ _ _ _ _ h0⟩
  rw [cell_block _ _ _ _ _ _ h0]
  exact Array.getElem?_eq_getElem (by omega)
theorem Lent2.at {w : World} {g : Nat} {xs : List Int} {j k : Nat} (h : Lent2 w g xs j) (hk : k < xs.length) : w.cell? ⟨g, k, none⟩ = some (.int .u8 (xs.getD k 0)) := by
  obtain ⟨cur, h0, h1, h2, h3⟩ := h
  rw [cell_block _ _ _ _ _ _ h0]
  exact h2 k hk
theorem Lent2.mark {w : World} {g : Nat} {xs : List Int} {j k : Nat} (h : Lent2 w g xs j) (hk : k < j) : w.cell? ⟨g, xs.length + k, none⟩ = some (.int .u8 169) := by
  obtain ⟨cur, h0, h1, h2, h3⟩ := h
  rw [cell_block _ _ _ _ _ _ h0]
  exact h3 k hk

theorem Lent2.step {w : World} {g : Nat} {xs : List Int} {j : Nat} (h : Lent2 w g xs j) (hj : j < 67) : Lent2 (w.setCell ⟨g, xs.length + j, none⟩ (.int .u8 169)) g xs (j + 1) := by
  obtain ⟨cur, h0, h1, h2, h3⟩ := h
  refine ⟨_, set_block _ _ _ _ _ _ h0 _, by simp [h1], fun i hi => ?_, fun i hi => ?_⟩
  · rw [Array.getElem?_setIfInBounds, if_neg (by omega)]
    exact h2 i hi
  · rw [Array.getElem?_setIfInBounds]
    by_cases e : i = j
    · subst e
      rw [if_pos rfl, if_pos (by omega)]
    · rw [if_neg (by omega)]
      exact h3 i (by omega)
theorem Lent2.set {w : World} {g : Nat} {xs : List Int} {j k : Nat} (h : Lent2 w g xs j) (hk : k < xs.length) (x : Int) : Lent2 (w.setCell ⟨g, k, none⟩ (.int .u8 x)) g (xs.set k x) j := by
  obtain ⟨cur, h0, h1, h2, h3⟩ := h
  refine ⟨_, set_block _ _ _ _ _ _ h0 _, by simp [h1], fun i hi => ?_, fun i hi => ?_⟩
  · rw [List.length_set] at hi
    rw [Array.getElem?_setIfInBounds]
    by_cases e : k = i
    · subst e
      rw [if_pos rfl, if_pos (by omega)]
      simp [List.getD, hi]
    · rw [if_neg e, h2 i hi]
      simp [List.getD, List.getElem?_set, e]
  · rw [List.length_set, Array.getElem?_setIfInBounds, if_neg (by omega)]
    exact h3 i hi
theorem Lent2.kept {S : Nat → Prop} {w w' : World} {g : Nat} {xs : List Int} {j : Nat} (h : Lent2 w g xs j) (hk : Kept S w w') (hs : ¬ S g) : Lent2 w' g xs j := by
  obtain ⟨cur, h0, h1⟩ := h
  exact ⟨cur, (hk.block g (Array.getElem?_eq_some_iff.1 h0).1 hs).trans h0, h1⟩

theorem Lent2.bin {w : World} {g : Nat} {xs : List Int} {j : Nat} (h : Lent2 w g xs j) : IsB w (.slice (some ⟨g, 0, none⟩) xs.length (xs.length + 67)) xs :=
  .inr ⟨g, 0, _, rfl, fun i hi => by rw [Nat.zero_add]; exact h.at hi⟩



theorem mapc2 {w : World} {g o : Nat} {xs : List Int} (h : ∀ i, i < xs.length → w.cell? ⟨g, o + i, none⟩ = some (.int .u8 (xs.getD i 0))) : ∀ j u, (xs.map (Value.int .u8))[j]? = some u → w.cell? ((⟨g, o, none⟩ : Addr).add j) = some u := by
  intro j u hj
  have hl : j < xs.length := by
    have := (List.getElem?_eq_some_iff.1 hj).1
    simpa using this
  rw [Addr.add_lit, h j hl]
  rw [List.getElem?_map, List.getElem?_eq_getElem hl] at hj
  simpa [List.getD, List.getElem?_eq_getElem hl] using hj

/-- The copy into the new block. -/
theorem lend2_copy (w : World) (v : Value) (xs : List Int) (hx : IsB w v xs) (ty : TypeId) : ∃ W', (Builtin.copy_ #[22, 22] ty #[.slice (some ⟨w.heap.size, 0, none⟩) (xs.length + 67) (xs.length + 67), v]).run Try.prog (w.alloc (.cells (zer (xs.length + 67)) 5)) = .ok (goInt xs.length) W' ∧
    Lent2 W' w.heap.size xs 0 ∧ Kept (fun _ => False) w W' := by
  have hg : (w.alloc (.cells (zer (xs.length + 67)) 5)).heap[w.heap.size]? = some (.cells (zer (xs.length + 67)) 5) := heap_alloc_new _ _
  rcases hx with ⟨rfl, ao, c, rfl⟩ | ⟨b, o, c, rfl, hx⟩
  · refine ⟨_, run_copy_none (P := Try.prog) _ 22 22 ty 5 _ _ _ _ _ _ Try.underlying22 info5size (by simp), ⟨_, hg, by rw [zer_size], fun i hi => absurd hi (by simp), fun i hi => absurd hi (by omega)⟩, (Kept.refl _ _).alloc _⟩
  · have hr := run_copy_row (P := Try.prog) (w.alloc (.cells (zer (xs.length + 67)) 5)) 22 22 ty 5 w.heap.size 0 (xs.length + 67) (xs.length + 67) ⟨b, o, none⟩ xs.length c (zer (xs.length + 67)) 5 (xs.map (Value.int .u8)) Try.underlying22 info5size hg (by simp) (fun j u hj => ((Kept.refl (fun _ => False) w).alloc _).cell (mapc2 hx j u hj) (fun f => f)) (by simp [zer_size]) (map_one xs)
    rw [List.length_map] at hr
    refine ⟨_, hr, ⟨_, setRow_heap _ _ _ _ _ _ hg, ?_, fun i hi => ?_, fun i hi => absurd hi (by omega)⟩, ?_⟩
    · simp [zer_size]
    · simp [List.getElem?_append, hi, List.getD]
    · refine ⟨rfl, rfl, rfl, by simp, fun k hk _ => ?_⟩
      rw [setRow_other _ _ _ _ (by omega)]
      exact Below.heap_alloc _ _ _ hk

/-- While lent bytes are written over. -/
def Over2 (w wr : World) (g n : Nat) : Prop := (∃ cur : Array Value, wr.heap[g]? = some (.cells cur 5 (0, 0)) ∧ cur.size = n) ∧ Kept (fun k => k = g) w wr
theorem Over2.cells {w wr : World} {g n k : Nat} (h : Over2 w wr g n) (hk : k < n) : (∃ u, wr.cell? ⟨g, k, none⟩ = some u) ∧ wr.frozen? ⟨g, k, none⟩ = false := by
  obtain ⟨⟨cur, h0, h1⟩, _⟩ := h
  refine ⟨⟨cur[k]'(by omega), ?_⟩, frozen_block _ _ _ _ _ h0⟩
  rw [cell_block _ _ _ _ _ _ h0]
  exact Array.getElem?_eq_getElem (by omega)
theorem Over2.step {w wr : World} {g n : Nat} (h : Over2 w wr g n) (k : Nat) (u : Value) : Over2 w (wr.setCell ⟨g, k, none⟩ u) g n := by
  obtain ⟨⟨cur, h0, h1⟩, h2⟩ := h
  exact ⟨⟨_, set_block _ _ _ _ _ _ h0 _, by simp [h1]⟩, h2.trans (kept_set wr g k u)⟩

end Go.Proofs.Ytnjhnlohjhdcpab

/-
  A row of a table by its number, and by its name.
-/
import Derived.Test.YtindhkjcifghhaaOa
namespace Go.Proofs.Ytindhkjcifghhaa
open Go.RowKit
set_option linter.unusedVariables false
set_option linter.unusedSimpArgs false
set_option maxRecDepth 100000

theorem results_row_tmp {fn : Func} {p u : Tmp} {ty : TypeId} (h : fn.results = #[.cell p ty, .tmp u]) (tmps : Array Value) (w : World) (a : Addr) (v x : Value)
    (hp : tmps.getD p undef = .pointer (some a)) (hx : tmps.getD u undef = x) (hl : (loadVar ty a).run Try.prog w = .ok v w) :
    (results fn tmps).run Try.prog w = .ok (.tuple #[v, x]) w := by
  rw [results_cell_tmp h, hp, hx]
  simp [asAddr, Result.andThen, hl]

/-- Is there a row of this number? -/
def isRow (L : List Sh) (n : Int) : Bool := decide (0 ≤ n ∧ n < (L.length : Int))
/-- The row, or the empty one. -/
def rowS (L : List Sh) (n : Int) : Sh := if 0 ≤ n ∧ n < (L.length : Int) then L.getD n.toNat Sh.none else Sh.none
theorem tcells_length (L : List Sh) : (tcells L).length = 4 * L.length := by
  induction L with
  | nil => rfl
  | cons x L ih => simp [tcells, Sh.cells] at ih ⊢; omega
theorem tcells_get (L : List Sh) (n j : Nat) (h : n < L.length) (hj : j < 4) : (tcells L)[n * 4 + j]? = ((L.getD n Sh.none).cells)[j]? := by
  induction L generalizing n with
  | nil => simp at h
  | cons x L ih =>
    have e : tcells (x :: L) = x.cells ++ tcells L := rfl
    cases n with
    | zero =>
      rw [e, List.getElem?_append_left (by simp [Sh.cells]; omega)]
      simp
    | succ n =>
      rw [e, List.getElem?_append_right (by simp [Sh.cells]; omega)]
      have := ih n (by simpa using h)
      simp only [Sh.cells, List.length_cons, List.length_nil, List.getD_cons_succ] at this ⊢
      rw [← this]
      congr 1
      omega
theorem sh_one (s : Sh) : s.cells.toArray.all (·.oneCell') = true := by
  rw [Array.all_eq_true_iff_forall_mem]
  intro v hv
  simp [Sh.cells] at hv
  rcases hv with rfl | rfl | rfl | rfl <;> rfl
theorem size24 : (Try.prog.info? 24).map (·.size) = some 4 := by kernel_rfl

set_option maxHeartbeats 4000000 in
theorem row_any (L : List Sh) (g t : Nat) (n : Int) (w : World) (hg : w.heap[g]? = some (.cells (tcells L).toArray t (0, 0))) (hn0 : -9223372036854775808 ≤ n) (hn1 : n < 9223372036854775808) (hL : L.length ≤ 46) :
    Calls Try.prog 31 #[.slice (some ⟨g, 0, none⟩) L.length L.length, .int .i64 n] w fun e w' => e = .returned (.tuple #[.agg (rowS L n).cells.toArray, .bool (isRow L n)]) ∧ Kept (fun _ => False) w w' := by
  by_cases h : 0 ≤ n ∧ n < (L.length : Int)
  · obtain ⟨k, rfl⟩ : ∃ k : Nat, n = k := ⟨n.toNat, by omega⟩
    have hkl : k < L.length := by omega
    have hr : Hid (rowS L (k : Int) = L.getD k Sh.none ∧ isRow L (k : Int) = true) := by
      unfold Hid rowS isRow
      rw [if_pos h, decide_eq_true h]
      exact ⟨by simp, rfl⟩
    generalize hs : L.getD k Sh.none = s at *
    have hc : ∀ j v, s.cells[j]? = some v → w.cell? ⟨g, k * 4 + j, none⟩ = some v := fun j v hv => by
      have hj : j < 4 := by
        have := (List.getElem?_eq_some_iff.1 hv).1
        simpa [Sh.cells] using this
      rw [cell_block _ _ _ _ _ _ hg]
      have := tcells_get L k j hkl hj
      rw [hs, hv] at this
      simpa using this
    have hrg : (w.alloc (.cells Sh.none.cells.toArray 24)).rangeAt g (k * 4) s.cells := fun j v hv => ((Kept.refl (fun _ => False) w).alloc _).cell (hc j v hv) (fun f => f)
    have hk0 : (0 : Int) ≤ (k : Int) := h.1
    have hk1 : (k : Int) < (L.length : Int) := h.2
    have hk2 : ¬ ((k : Int) < 0) := by omega
    obtain ⟨hO, hX, hK⟩ := new_row w (Sh.none.cells.toArray) s.cells.toArray 24
    clear hn0 hn1 hs hc h hg
    generalize L.length = N at *
    go_enter Try.func31, Try.ntmps31
    go_wp2_with (first | refine wpList_load_mid rfl 24 _ rfl g (k * 4) rfl s.cells _ hrg Try.underlying24 rfl size24 ?_ | refine wpList_store_row rfl 24 _ _ rfl w.heap.size s.cells.toArray rfl rfl 24 _ hO size24 rfl (sh_one s) ?_)
    refine bodyPost_ret (v := .tuple #[.agg s.cells.toArray, .bool true]) ?_ rfl ⟨by rw [hr.out.1, hr.out.2], hK⟩
    exact results_row_tmp (by rfl) _ _ ⟨w.heap.size, 0, none⟩ _ _ (by rfl) (by rfl) (run_loadVar_row _ w.heap.size 24 24 _ (0, 0) _ hX Try.underlying24 rfl size24)
  · have hr : Hid (rowS L n = Sh.none ∧ isRow L n = false) := by
      unfold Hid rowS isRow
      rw [if_neg h, decide_eq_false h]
      exact ⟨rfl, rfl⟩
    obtain ⟨hO, hX, hK⟩ := new_row w (Sh.none.cells.toArray) Sh.none.cells.toArray 24
    have hd : (decide (n < 0) || decide ((L.length : Int) ≤ n)) = true := by
      rw [Bool.or_eq_true, decide_eq_true_iff, decide_eq_true_iff]
      omega
    clear h hg
    generalize L.length = N at *
    have HX := hid_of (heap_alloc2_old w (.cells Sh.none.cells.toArray 24) (.cells Sh.none.cells.toArray 24))
    have HK := hid_of (((Kept.refl (fun _ => False) w).alloc (.cells Sh.none.cells.toArray 24)).alloc (.cells Sh.none.cells.toArray 24))
    clear hO hX hK
    go_enter Try.func31, Try.ntmps31
    go_wp2
    all_goals
      refine bodyPost_ret (v := .tuple #[.agg Sh.none.cells.toArray, .bool false]) ?_ rfl ⟨by rw [hr.out.1, hr.out.2], HK.out⟩
      exact results_row_tmp (by rfl) _ _ ⟨w.heap.size, 0, none⟩ _ _ (by rfl) (by rfl) (run_loadVar_row _ w.heap.size 24 24 _ (0, 0) _ HX.out Try.underlying24 rfl size24)


end Go.Proofs.Ytindhkjcifghhaa

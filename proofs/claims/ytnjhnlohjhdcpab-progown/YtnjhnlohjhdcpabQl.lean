/-
  The law's lend and kept of bytes by contract.
-/
import Derived.Test.YtnjhnlohjhdcpabLnd
namespace Go.Proofs.Ytnjhnlohjhdcpab
open Go.RowKit
set_option linter.unusedVariables false
set_option linter.unusedSimpArgs false

/-- A block that is lent: the bytes, and so many marks behind them. -/
def Lent5 (w : World) (g : Nat) (xs : List Int) (j : Nat) : Prop :=
  ∃ cur : Array Value, w.heap[g]? = some (.cells cur 5 (0, 0)) ∧ cur.size = xs.length + 5 ∧ (∀ i, i < xs.length → cur[i]? = some (.int .u8 (xs.getD i 0))) ∧ (∀ i, i < j → cur[xs.length + i]? = some (.int .u8 201))

theorem Lent5.cells {w : World} {g : Nat} {xs : List Int} {j k : Nat} (h : Lent5 w g xs j) (hk : k < xs.length + 5) : (∃ u, w.cell? ⟨g, k, none⟩ = some u) ∧ w.frozen? ⟨g, k, none⟩ = false := by
  obtain ⟨cur, h0, h1, h2, h3⟩ := h
  refine ⟨⟨cur[k]'(by omega), ?_⟩, frozen_block _ _ _ _ _ h0⟩
  rw [cell_block _ _ _ _ _ _ h0]
  exact Array.getElem?_eq_getElem (by omega)
theorem Lent5.at {w : World} {g : Nat} {xs : List Int} {j k : Nat} (h : Lent5 w g xs j) (hk : k < xs.length) : w.cell? ⟨g, k, none⟩ = some (.int .u8 (xs.getD k 0)) := by
  obtain ⟨cur, h0, h1, h2, h3⟩ := h
  rw [cell_block _ _ _ _ _ _ h0]
  exact h2 k hk
theorem Lent5.mark {w : World} {g : Nat} {xs : List Int} {j k : Nat} (h : Lent5 w g xs j) (hk : k < j) : w.cell? ⟨g, xs.length + k, none⟩ = some (.int .u8 201) := by
  obtain ⟨cur, h0, h1, h2, h3⟩ := h
  rw [cell_block _ _ _ _ _ _ h0]
  exact h3 k hk

theorem Lent5.step {w : World} {g : Nat} {xs : List Int} {j : Nat} (h : Lent5 w g xs j) (hj : j < 5) : Lent5 (w.setCell ⟨g, xs.length + j, none⟩ (.int .u8 201)) g xs (j + 1) := by
  obtain ⟨cur, h0, h1, h2, h3⟩ := h
  refine ⟨_, set_block _ _ _ _ _ _ h0 _, by simp [h1], fun i hi => ?_, fun i hi => ?_⟩
  · rw [Array.getElem?_setIfInBounds, if_neg (by omega)]
    exact h2 i hi
  · rw [Array.getElem?_setIfInBounds]
    by_cases e : i = j
    · subst e
      rw [if_pos rfl, if_pos (by omega)]
    · rw [if_neg (by omega)]
      exact h3 i (by omega)
theorem Lent5.set {w : World} {g : Nat} {xs : List Int} {j k : Nat} (h : Lent5 w g xs j) (hk : k < xs.length) (x : Int) : Lent5 (w.setCell ⟨g, k, none⟩ (.int .u8 x)) g (xs.set k x) j := by
  obtain ⟨cur, h0, h1, h2, h3⟩ := h
  refine ⟨_, set_block _ _ _ _ _ _ h0 _, by simp [h1], fun i hi => ?_, fun i hi => ?_⟩
  · rw [List.length_set] at hi
    rw [Array.getElem?_setIfInBounds]
    by_cases e : k = i
    · subst e
      rw [if_pos rfl, if_pos (by omega)]
      simp [List.getD, hi]
    · rw [if_neg e, h2 i hi]
      simp [List.getD, List.getElem?_set, e]
  · rw [List.length_set, Array.getElem?_setIfInBounds, if_neg (by omega)]
    exact h3 i hi
theorem Lent5.kept {S : Nat → Prop} {w w' : World} {g : Nat} {xs : List Int} {j : Nat} (h : Lent5 w g xs j) (hk : Kept S w w') (hs : ¬ S g) : Lent5 w' g xs j := by
  obtain ⟨cur, h0, h1⟩ := h
  exact ⟨cur, (hk.block g (Array.getElem?_eq_some_iff.1 h0).1 hs).trans h0, h1⟩

theorem Lent5.bin {w : World} {g : Nat} {xs : List Int} {j : Nat} (h : Lent5 w g xs j) : IsB w (.slice (some ⟨g, 0, none⟩) xs.length (xs.length + 5)) xs :=
  .inr ⟨g, 0, _, rfl, fun i hi => by rw [Nat.zero_add]; exact h.at hi⟩



/-- The copy into the new block. -/
theorem lend5_copy (w : World) (v : Value) (xs : List Int) (hx : IsB w v xs) (ty : TypeId) : ∃ W', (Builtin.copy_ #[22, 22] ty #[.slice (some ⟨w.heap.size, 0, none⟩) (xs.length + 5) (xs.length + 5), v]).run Try.prog (w.alloc (.cells (zer (xs.length + 5)) 5)) = .ok (goInt xs.length) W' ∧
    Lent5 W' w.heap.size xs 0 ∧ Kept (fun _ => False) w W' := by
  have hg : (w.alloc (.cells (zer (xs.length + 5)) 5)).heap[w.heap.size]? = some (.cells (zer (xs.length + 5)) 5) := heap_alloc_new _ _
  rcases hx with ⟨rfl, ao, c, rfl⟩ | ⟨b, o, c, rfl, hx⟩
  · refine ⟨_, run_copy_none (P := Try.prog) _ 22 22 ty 5 _ _ _ _ _ _ Try.underlying22 info5size (by simp), ⟨_, hg, by rw [zer_size], fun i hi => absurd hi (by simp), fun i hi => absurd hi (by omega)⟩, (Kept.refl _ _).alloc _⟩
  · have hr := run_copy_row (P := Try.prog) (w.alloc (.cells (zer (xs.length + 5)) 5)) 22 22 ty 5 w.heap.size 0 (xs.length + 5) (xs.length + 5) ⟨b, o, none⟩ xs.length c (zer (xs.length + 5)) 5 (xs.map (Value.int .u8)) Try.underlying22 info5size hg (by simp) (fun j u hj => ((Kept.refl (fun _ => False) w).alloc _).cell (mapc2 hx j u hj) (fun f => f)) (by simp [zer_size]) (map_one xs)
    rw [List.length_map] at hr
    refine ⟨_, hr, ⟨_, setRow_heap _ _ _ _ _ _ hg, ?_, fun i hi => ?_, fun i hi => absurd hi (by omega)⟩, ?_⟩
    · simp [zer_size]
    · simp [List.getElem?_append, hi, List.getD]
    · refine ⟨rfl, rfl, rfl, by simp, fun k hk _ => ?_⟩
      rw [setRow_other _ _ _ _ (by omega)]
      exact Below.heap_alloc _ _ _ hk

set_option maxRecDepth 100000 in
set_option maxHeartbeats 1000000 in
theorem lend5_any (v : Value) (xs : List Int) (w : World) (hx : IsB w v xs) (hn : xs.length ≤ 140737488355323) :
    Calls Try.prog 11 #[v] w fun e w' => e = .returned (.slice (some ⟨w.heap.size, 0, none⟩) xs.length (xs.length + 5)) ∧ Lent5 w' w.heap.size xs 5 ∧ Kept (fun _ => False) w w' := by
  obtain ⟨ao, c, rfl⟩ := hx.shape
  obtain ⟨W', hcp, hl, hk⟩ := lend5_copy w _ xs hx 3
  have mk := make_any w (xs.length + 5) (by omega)
  rw [show ((xs.length + 5 : Nat) : Int) = (xs.length : Int) + 5 from by omega] at mk
  have HL := hid_of hl
  have HK := hid_of hk
  clear hl hk hx
  go_enter Try.func11, Try.ntmps11
  go_wp2
  clear mk hcp
  generalize hN : xs.length = n at *
  have HN := hid_of hN
  clear hN
  go_loopw [4] (fun i wr => ∃ j : Nat, j ≤ 5 ∧ i = .int .i64 ((n : Int) + (j : Int)) ∧ Lent5 wr w.heap.size xs j ∧ Kept (fun _ => False) w wr) (fun i _ => (n + 5) - (intOf i).toNat)
  case atStart => exact ⟨0, by omega, by simp, HL.out, HK.out⟩
  case round =>
    obtain ⟨j, hj, rfl, hLe, hKe⟩ := hrel
    by_cases hlt : j < 5
    · obtain ⟨⟨u, hu⟩, hfz⟩ := hLe.cells (k := n + j) (by rw [HN.out]; omega)
      have HLS := hid_of (hLe.step hlt)
      rw [HN.out] at HLS
      have HKS : Hid (Kept (fun _ => False) w (wr.setCell ⟨w.heap.size, n + j, none⟩ (.int .u8 201))) := hKe.setCell (.inl (Nat.le_refl _)) _
      have hjI : (n : Int) + (j : Int) < (n : Int) + 5 := by omega
      clear hLe hKe HL HK
      go_wp2
      go_roundw
      case rel => exact ⟨j + 1, by omega, by go_num, HLS.out, HKS.out⟩
      case measure => simp [intOf]; omega
    · obtain rfl : j = 5 := by omega
      have HLS := hid_of hLe
      have HKS := hid_of hKe
      clear hLe hKe HL HK
      go_wp2
      go_ret
      refine ⟨?_, HLS.out, HKS.out⟩
      rw [HN.out]
      rfl


set_option maxRecDepth 100000 in
set_option maxHeartbeats 1000000 in
theorem held5_any (g : Nat) (v : Value) (xs : List Int) (w : World) (hl : Lent5 w g xs 5) (hx : IsB w v xs) (hn : xs.length ≤ 140737488355323) :
    Calls Try.prog 14 #[.slice (some ⟨g, 0, none⟩) xs.length (xs.length + 5), v] w fun e w' => e = .returned (.bool true) ∧ w' = w := by
  have hs1 := conv_str w _ xs hl.bin
  have hs2 := conv_str w v xs hx
  obtain ⟨ao, c, rfl⟩ := hx.shape
  have HL := hid_of hl
  obtain ⟨sa, hsa⟩ : ∃ s, s = str xs := ⟨_, rfl⟩
  rw [← hsa] at hs1 hs2
  obtain ⟨n, hN⟩ : ∃ n, n = xs.length := ⟨_, rfl⟩
  have HN := hid_of hN
  rw [← hN] at hs1 hs2 hn
  rw [← hN]
  clear hl hx hN hsa
  go_enter Try.func14, Try.ntmps14
  go_wp2_with fail
  go_loop [6] (fun i => ∃ j : Nat, j ≤ 5 ∧ i = .int .i64 ((n : Int) + (j : Int))) (fun i => (n + 5) - (intOf i).toNat)
  case atStart => exact ⟨0, by omega, by simp⟩
  case round =>
    obtain ⟨j, hj, rfl⟩ := hrel
    by_cases hlt : j < 5
    · have hm := HL.out.mark hlt
      rw [← HN.out] at hm
      have hjI : (n : Int) + (j : Int) < (n : Int) + 5 := by omega
      have hbi : ((n : Int) + (j : Int)).toNat = n + j := by omega
      go_wp2
      go_round
      case rel => exact ⟨j + 1, by omega, by go_num⟩
      case measure => simp [intOf]; omega
    · have hjI : ¬ ((n : Int) + (j : Int) < (n : Int) + 5) := by omega
      go_wp2
      go_ret
      exact ⟨rfl, rfl⟩
end Go.Proofs.Ytnjhnlohjhdcpab

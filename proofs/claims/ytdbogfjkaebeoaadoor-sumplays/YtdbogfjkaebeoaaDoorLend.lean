/-
  Lend and round by contract.
-/
import Derived.Test.YtdbogfjkaebeoaaDoorKnown
import Derived.Laws.BitsAllLaws
namespace Go.Proofs.YtdbogfjkaebeoaaDoor
open Go.RowKit
set_option linter.unusedVariables false
set_option linter.unusedSimpArgs false

/-- A block that is lent: the bytes, and so many marks behind them. -/
def Lent (w : World) (g : Nat) (xs : List Int) (j : Nat) : Prop :=
  ∃ cur : Array Value, w.heap[g]? = some (.cells cur 5 (0, 0)) ∧ cur.size = xs.length + 67 ∧ (∀ i, i < xs.length → cur[i]? = some (.int .u8 (xs.getD i 0))) ∧ (∀ i, i < j → cur[xs.length + i]? = some (.int .u8 169))

theorem Lent.cells {w : World} {g : Nat} {xs : List Int} {j k : Nat} (h : Lent w g xs j) (hk : k < xs.length + 67) : (∃ u, w.cell? ⟨g, k, none⟩ = some u) ∧ w.frozen? ⟨g, k, none⟩ = false := by
  obtain ⟨cur, h0, h1, h2, h3⟩ := h
  refine ⟨⟨cur[k]'(by omega), ?_⟩, frozen_block _ _ _ _ _ h0⟩
  rw [cell_block _ _ _ _ _ _ h0]
  exact Array.getElem?_eq_getElem (by omega)
theorem Lent.at {w : World} {g : Nat} {xs : List Int} {j k : Nat} (h : Lent w g xs j) (hk : k < xs.length) : w.cell? ⟨g, k, none⟩ = some (.int .u8 (xs.getD k 0)) := by
  obtain ⟨cur, h0, h1, h2, h3⟩ := h
  rw [cell_block _ _ _ _ _ _ h0]
  exact h2 k hk
theorem Lent.mark {w : World} {g : Nat} {xs : List Int} {j k : Nat} (h : Lent w g xs j) (hk : k < j) : w.cell? ⟨g, xs.length + k, none⟩ = some (.int .u8 169) := by
  obtain ⟨cur, h0, h1, h2, h3⟩ := h
  rw [cell_block _ _ _ _ _ _ h0]
  exact h3 k hk

theorem Lent.step {w : World} {g : Nat} {xs : List Int} {j : Nat} (h : Lent w g xs j) (hj : j < 67) : Lent (w.setCell ⟨g, xs.length + j, none⟩ (.int .u8 169)) g xs (j + 1) := by
  obtain ⟨cur, h0, h1, h2, h3⟩ := h
  refine ⟨_, set_block _ _ _ _ _ _ h0 _, by simp [h1], fun i hi => ?_, fun i hi => ?_⟩
  · rw [Array.getElem?_setIfInBounds, if_neg (by omega)]
    exact h2 i hi
  · rw [Array.getElem?_setIfInBounds]
    by_cases e : i = j
    · subst e
      rw [if_pos rfl, if_pos (by omega)]
    · rw [if_neg (by omega)]
      exact h3 i (by omega)
theorem Lent.set {w : World} {g : Nat} {xs : List Int} {j k : Nat} (h : Lent w g xs j) (hk : k < xs.length) (x : Int) : Lent (w.setCell ⟨g, k, none⟩ (.int .u8 x)) g (xs.set k x) j := by
  obtain ⟨cur, h0, h1, h2, h3⟩ := h
  refine ⟨_, set_block _ _ _ _ _ _ h0 _, by simp [h1], fun i hi => ?_, fun i hi => ?_⟩
  · rw [List.length_set] at hi
    rw [Array.getElem?_setIfInBounds]
    by_cases e : k = i
    · subst e
      rw [if_pos rfl, if_pos (by omega)]
      simp [List.getD, hi]
    · rw [if_neg e, h2 i hi]
      simp [List.getD, List.getElem?_set, e]
  · rw [List.length_set, Array.getElem?_setIfInBounds, if_neg (by omega)]
    exact h3 i hi
theorem Lent.kept {S : Nat → Prop} {w w' : World} {g : Nat} {xs : List Int} {j : Nat} (h : Lent w g xs j) (hk : Kept S w w') (hs : ¬ S g) : Lent w' g xs j := by
  obtain ⟨cur, h0, h1⟩ := h
  exact ⟨cur, (hk.block g (Array.getElem?_eq_some_iff.1 h0).1 hs).trans h0, h1⟩

theorem Lent.bin {w : World} {g : Nat} {xs : List Int} {j : Nat} (h : Lent w g xs j) : BIn w (.slice (some ⟨g, 0, none⟩) xs.length (xs.length + 67)) xs := by
  refine ⟨_, _, rfl, by omega, .inr ⟨g, 0, rfl, fun i hi => ?_⟩⟩
  rw [Nat.zero_add]
  exact h.at hi

theorem info5size : (Tryd.prog.info? 5).map (·.size) = some 1 := by kernel_rfl
theorem map_cells {w : World} {g o : Nat} {xs : List Int} (h : ∀ i, i < xs.length → w.cell? ⟨g, o + i, none⟩ = some (.int .u8 (xs.getD i 0))) : ∀ j u, (xs.map (Value.int .u8))[j]? = some u → w.cell? ((⟨g, o, none⟩ : Addr).add j) = some u := by
  intro j u hj
  have hl : j < xs.length := by
    have := (List.getElem?_eq_some_iff.1 hj).1
    simpa using this
  rw [Addr.add_mid, h j hl]
  rw [List.getElem?_map, List.getElem?_eq_getElem hl] at hj
  simpa [List.getD, List.getElem?_eq_getElem hl] using hj
theorem map_one (xs : List Int) : ∀ u ∈ xs.map (Value.int .u8), u.oneCell' = true := by
  intro u hu
  obtain ⟨x, _, rfl⟩ := List.mem_map.1 hu
  rfl

/-- The copy into the new block. -/
theorem lend_copy (w : World) (v : Value) (xs : List Int) (hx : BIn w v xs) (ty : TypeId) : ∃ W', (Builtin.copy_ #[25, 25] ty #[.slice (some ⟨w.heap.size, 0, none⟩) (xs.length + 67) (xs.length + 67), v]).run Tryd.prog (w.alloc (.cells (zer (xs.length + 67)) 5)) = .ok (goInt xs.length) W' ∧
    Lent W' w.heap.size xs 0 ∧ Kept (fun _ => False) w W' := by
  have hg : (w.alloc (.cells (zer (xs.length + 67)) 5)).heap[w.heap.size]? = some (.cells (zer (xs.length + 67)) 5) := alloc_new _ _ rfl
  obtain ⟨ao, c, rfl, hc, rfl | ⟨b, o, rfl, hx⟩⟩ := hx
  · refine ⟨_, run_copy_none (P := Tryd.prog) _ 25 25 ty 5 _ _ _ _ _ _ Tryd.underlying25 info5size (by simp), ⟨_, hg, by rw [zer_size], fun i hi => absurd hi (by simp), fun i hi => absurd hi (by omega)⟩, (Kept.refl _ _).alloc _⟩
  · have hr := run_copy_row (P := Tryd.prog) (w.alloc (.cells (zer (xs.length + 67)) 5)) 25 25 ty 5 w.heap.size 0 (xs.length + 67) (xs.length + 67) ⟨b, o, none⟩ xs.length c (zer (xs.length + 67)) 5 (xs.map (Value.int .u8)) Tryd.underlying25 info5size hg (by simp) (fun j u hj => ((Kept.refl (fun _ => False) w).alloc _).cell (map_cells hx j u hj) (fun f => f)) (by simp [zer_size]) (map_one xs)
    rw [List.length_map] at hr
    refine ⟨_, hr, ⟨_, setRow_heap _ _ _ _ _ _ hg, ?_, fun i hi => ?_, fun i hi => absurd hi (by omega)⟩, ?_⟩
    · simp [zer_size]
    · simp [List.getElem?_append, hi, List.getD]
    · refine ⟨rfl, rfl, rfl, by simp, fun k hk _ => ?_⟩
      rw [setRow_other _ _ _ _ (by omega)]
      exact Below.heap_alloc _ _ _ hk

set_option maxRecDepth 100000 in
set_option maxHeartbeats 1000000 in
theorem lend_any (v : Value) (xs : List Int) (w : World) (hx : BIn w v xs) (hn : xs.length ≤ 140737488355261) :
    Calls Tryd.prog 11 #[v] w fun e w' => e = .returned (.slice (some ⟨w.heap.size, 0, none⟩) xs.length (xs.length + 67)) ∧ Lent w' w.heap.size xs 67 ∧ Kept (fun _ => False) w w' := by
  obtain ⟨ao, c, rfl⟩ : ∃ ao c, v = .slice ao xs.length c := by
    obtain ⟨ao, c, h, _⟩ := hx
    exact ⟨ao, c, h⟩
  obtain ⟨W', hcp, hl, hk⟩ := lend_copy w _ xs hx 3
  have mk := make_any w (xs.length + 67) (by omega)
  rw [show ((xs.length + 67 : Nat) : Int) = (xs.length : Int) + 67 from by omega] at mk
  have HL := hid_of hl
  have HK := hid_of hk
  clear hl hk hx
  go_enter Tryd.func11, Tryd.ntmps11
  go_wp2
  clear mk hcp
  generalize hN : xs.length = n at *
  have HN := hid_of hN
  clear hN
  go_loopw [4] (fun i wr => ∃ j : Nat, j ≤ 67 ∧ i = .int .i64 ((n : Int) + (j : Int)) ∧ Lent wr w.heap.size xs j ∧ Kept (fun _ => False) w wr) (fun i _ => (n + 67) - (intOf i).toNat)
  case atStart => exact ⟨0, by omega, by simp, HL.out, HK.out⟩
  case round =>
    obtain ⟨j, hj, rfl, hLe, hKe⟩ := hrel
    by_cases hlt : j < 67
    · obtain ⟨⟨u, hu⟩, hfz⟩ := hLe.cells (k := n + j) (by rw [HN.out]; omega)
      have HLS := hid_of (hLe.step hlt)
      rw [HN.out] at HLS
      have HKS : Hid (Kept (fun _ => False) w (wr.setCell ⟨w.heap.size, n + j, none⟩ (.int .u8 169))) := hKe.setCell (.inl (Nat.le_refl _)) _
      have hjI : (n : Int) + (j : Int) < (n : Int) + 67 := by omega
      clear hLe hKe HL HK
      go_wp2
      go_roundw
      case rel => exact ⟨j + 1, by omega, by go_num, HLS.out, HKS.out⟩
      case measure => simp [intOf]; omega
    · obtain rfl : j = 67 := by omega
      have HLS := hid_of hLe
      have HKS := hid_of hKe
      clear hLe hKe HL HK
      go_wp2
      go_ret
      refine ⟨?_, HLS.out, HKS.out⟩
      rw [HN.out]
      rfl

set_option maxRecDepth 100000 in
set_option maxHeartbeats 1000000 in
theorem round_any (x n : Int) (w : World) (h0 : -9223372036854775808 ≤ x) (h1 : x ≤ 9223372036854775807) (hn : 0 < n) (hn' : n ≤ 4611686018427387904) :
    Calls Tryd.prog 18 #[.int .i64 x, .int .i64 n] w fun e w' => e = .returned (.int .i64 (x % n)) ∧ w' = w := by
  have hz : (n == 0) = false := by simp; omega
  by_cases hx : 0 ≤ x
  · have e := Int.tmod_eq_emod_of_nonneg (b := n) hx
    have HE := hid_of e
    clear e
    have l1 := Int.emod_nonneg x (show n ≠ 0 by omega)
    have l2 := Int.emod_lt_of_pos x hn
    go_enter Tryd.func18, Tryd.ntmps18
    go_wp2
    go_ret
    exact ⟨rfl, rfl⟩
  · have e : x.tmod n = -((-x) % n) := by
      have h : x = -(-x) := by omega
      rw [h, Int.neg_tmod, Int.tmod_eq_emod_of_nonneg (by omega), Int.neg_neg]
    have l1 := Int.emod_nonneg (-x) (show n ≠ 0 by omega)
    have l2 := Int.emod_lt_of_pos (-x) hn
    have t1 : -n < x.tmod n := by omega
    have t2 : x.tmod n ≤ 0 := by omega
    have f : x % n = if x.tmod n < 0 then x.tmod n + n else x.tmod n := by
      rw [Int.emod_eq_tmod]
      by_cases hd : n ∣ x
      · have z := Int.tmod_eq_zero_of_dvd hd
        rw [if_pos (.inr hd), if_neg (by omega)]
        omega
      · have z : x.tmod n ≠ 0 := fun h => hd (Int.dvd_of_tmod_eq_zero h)
        rw [if_neg (by intro h; rcases h with h | h; exact hx h; exact hd h), if_pos (by omega)]
        omega
    have HF := hid_of f
    clear e l1 l2 f
    by_cases ht : x.tmod n < 0
    · go_enter Tryd.func18, Tryd.ntmps18
      go_wp2
      go_ret
      refine ⟨?_, rfl⟩
      rw [HF.out, if_pos ht]
      rfl
    · go_enter Tryd.func18, Tryd.ntmps18
      go_wp2
      go_ret
      refine ⟨?_, rfl⟩
      rw [HF.out, if_neg (by omega)]
      rfl
end Go.Proofs.YtdbogfjkaebeoaaDoor

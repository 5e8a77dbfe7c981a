/-
  TLnd: Lnd.
-/
import Derived.Test.YtgoabnehdmdikaaGreatDoorTMc
namespace Go.Proofs.YtgoabnehdmdikaaGreatDoor
open Go.RowKit
set_option linter.unusedVariables false
set_option linter.unusedSimpArgs false

/-- A block that is lent: the bytes, and so many marks behind them. -/
def Lent2 (w : World) (g : Nat) (xs : List Int) (j : Nat) : Prop :=
  ∃ cur : Array Value, w.heap[g]? = some (.cells cur 5 (0, 0)) ∧ cur.size = xs.length + 67 ∧ (∀ i, i < xs.length → cur[i]? = some (.int .u8 (xs.getD i 0))) ∧ (∀ i, i < j → cur[xs.length + i]? = some (.int .u8 169))

theorem Lent2.cells {w : World} {g : Nat} {xs : List Int} {j k : Nat} (h : Lent2 w g xs j) (hk : k < xs.length + 67) : (∃ u, w.cell? ⟨g, k, none⟩ = some u) ∧ w.frozen? ⟨g, k, none⟩ = false := by
  obtain ⟨cur, h0, h1, h2, h3⟩ := h
  refine ⟨⟨cur[k]'(by omega), ?_⟩, frozen_block _ _ _ _ _ h0⟩
  rw [cell_block _ _ _ _ _ _ h0]
  exact Array.getElem?_eq_getElem (by omega)
theorem Lent2.at {w : World} {g : Nat} {xs : List Int} {j k : Nat} (h : Lent2 w g xs j) (hk : k < xs.length) : w.cell? ⟨g, k, none⟩ = some (.int .u8 (xs.getD k 0)) := by
  obtain ⟨cur, h0, h1, h2, h3⟩ := h
  rw [cell_block _ _ _ _ _ _ h0]
  exact h2 k hk
theorem Lent2.mark {w : World} {g : Nat} {xs : List Int} {j k : Nat} (h : Lent2 w g xs j) (hk : k < j) : w.cell? ⟨g, xs.length + k, none⟩ = some (.int .u8 169) := by
  obtain ⟨cur, h0, h1, h2, h3⟩ := h
  rw [cell_block _ _ _ _ _ _ h0]
  exact h3 k hk

theorem Lent2.step {w : World} {g : Nat} {xs : List Int} {j : Nat} (h : Lent2 w g xs j) (hj : j < 67) : Lent2 (w.setCell ⟨g, xs.length + j, none⟩ (.int .u8 169)) g xs (j + 1) := by
  obtain ⟨cur, h0, h1, h2, h3⟩ := h
  refine ⟨_, set_block _ _ _ _ _ _ h0 _, by simp [h1], fun i hi => ?_, fun i hi => ?_⟩
  · rw [Array.getElem?_setIfInBounds, if_neg (by omega)]
    exact h2 i hi
  · rw [Array.getElem?_setIfInBounds]
    by_cases e : i = j
    · subst e
      rw [if_pos rfl, if_pos (by omega)]
    · rw [if_neg (by omega)]
      exact h3 i (by omega)
theorem Lent2.set {w : World} {g : Nat} {xs : List Int} {j k : Nat} (h : Lent2 w g xs j) (hk : k < xs.length) (x : Int) : Lent2 (w.setCell ⟨g, k, none⟩ (.int .u8 x)) g (xs.set k x) j := by
  obtain ⟨cur, h0, h1, h2, h3⟩ := h
  refine ⟨_, set_block _ _ _ _ _ _ h0 _, by simp [h1], fun i hi => ?_, fun i hi => ?_⟩
  · rw [List.length_set] at hi
    rw [Array.getElem?_setIfInBounds]
    by_cases e : k = i
    · subst e
      rw [if_pos rfl, if_pos (by omega)]
      simp [List.getD, hi]
    · rw [if_neg e, h2 i hi]
      simp [List.getD, List.getElem?_set, e]
  · rw [List.length_set, Array.getElem?_setIfInBounds, if_neg (by omega)]
    exact h3 i hi
theorem Lent2.kept {S : Nat → Prop} {w w' : World} {g : Nat} {xs : List Int} {j : Nat} (h : Lent2 w g xs j) (hk : Kept S w w') (hs : ¬ S g) : Lent2 w' g xs j := by
  obtain ⟨cur, h0, h1⟩ := h
  exact ⟨cur, (hk.block g (Array.getElem?_eq_some_iff.1 h0).1 hs).trans h0, h1⟩

theorem Lent2.bin {w : World} {g : Nat} {xs : List Int} {j : Nat} (h : Lent2 w g xs j) : IsB w (.slice (some ⟨g, 0, none⟩) xs.length (xs.length + 67)) xs :=
  .inr ⟨g, 0, _, rfl, fun i hi => by rw [Nat.zero_add]; exact h.at hi⟩



theorem mapc2 {w : World} {g o : Nat} {xs : List Int} (h : ∀ i, i < xs.length → w.cell? ⟨g, o + i, none⟩ = some (.int .u8 (xs.getD i 0))) : ∀ j u, (xs.map (Value.int .u8))[j]? = some u → w.cell? ((⟨g, o, none⟩ : Addr).add j) = some u := by
  intro j u hj
  have hl : j < xs.length := by
    have := (List.getElem?_eq_some_iff.1 hj).1
    simpa using this
  rw [Addr.add_lit, h j hl]
  rw [List.getElem?_map, List.getElem?_eq_getElem hl] at hj
  simpa [List.getD, List.getElem?_eq_getElem hl] using hj

/-- The copy into the new block. -/
theorem lend2_copy (w : World) (v : Value) (xs : List Int) (hx : IsB w v xs) (ty : TypeId) : ∃ W', (Builtin.copy_ #[23, 23] ty #[.slice (some ⟨w.heap.size, 0, none⟩) (xs.length + 67) (xs.length + 67), v]).run Tryz.prog (w.alloc (.cells (zer (xs.length + 67)) 5)) = .ok (goInt xs.length) W' ∧
    Lent2 W' w.heap.size xs 0 ∧ Kept (fun _ => False) w W' := by
  have hg : (w.alloc (.cells (zer (xs.length + 67)) 5)).heap[w.heap.size]? = some (.cells (zer (xs.length + 67)) 5) := heap_alloc_new _ _
  rcases hx with ⟨rfl, ao, c, rfl⟩ | ⟨b, o, c, rfl, hx⟩
  · refine ⟨_, run_copy_none (P := Tryz.prog) _ 23 23 ty 5 _ _ _ _ _ _ Tryz.underlying23 info5size (by simp), ⟨_, hg, by rw [zer_size], fun i hi => absurd hi (by simp), fun i hi => absurd hi (by omega)⟩, (Kept.refl _ _).alloc _⟩
  · have hr := run_copy_row (P := Tryz.prog) (w.alloc (.cells (zer (xs.length + 67)) 5)) 23 23 ty 5 w.heap.size 0 (xs.length + 67) (xs.length + 67) ⟨b, o, none⟩ xs.length c (zer (xs.length + 67)) 5 (xs.map (Value.int .u8)) Tryz.underlying23 info5size hg (by simp) (fun j u hj => ((Kept.refl (fun _ => False) w).alloc _).cell (mapc2 hx j u hj) (fun f => f)) (by simp [zer_size]) (map_one xs)
    rw [List.length_map] at hr
    refine ⟨_, hr, ⟨_, setRow_heap _ _ _ _ _ _ hg, ?_, fun i hi => ?_, fun i hi => absurd hi (by omega)⟩, ?_⟩
    · simp [zer_size]
    · simp [List.getElem?_append, hi, List.getD]
    · refine ⟨rfl, rfl, rfl, by simp, fun k hk _ => ?_⟩
      rw [setRow_other _ _ _ _ (by omega)]
      exact Below.heap_alloc _ _ _ hk

set_option maxRecDepth 100000 in
set_option maxHeartbeats 1000000 in
theorem lend2_any (v : Value) (xs : List Int) (w : World) (hx : IsB w v xs) (hn : xs.length ≤ 140737488355261) :
    Calls Tryz.prog 26 #[v] w fun e w' => e = .returned (.slice (some ⟨w.heap.size, 0, none⟩) xs.length (xs.length + 67)) ∧ Lent2 w' w.heap.size xs 67 ∧ Kept (fun _ => False) w w' := by
  obtain ⟨ao, c, rfl⟩ := hx.shape
  obtain ⟨W', hcp, hl, hk⟩ := lend2_copy w _ xs hx 3
  have mk := make_any w (xs.length + 67) (by omega)
  rw [show ((xs.length + 67 : Nat) : Int) = (xs.length : Int) + 67 from by omega] at mk
  have HL := hid_of hl
  have HK := hid_of hk
  clear hl hk hx
  go_enter Tryz.func26, Tryz.ntmps26
  go_wp2
  clear mk hcp
  generalize hN : xs.length = n at *
  have HN := hid_of hN
  clear hN
  go_loopw [4] (fun i wr => ∃ j : Nat, j ≤ 67 ∧ i = .int .i64 ((n : Int) + (j : Int)) ∧ Lent2 wr w.heap.size xs j ∧ Kept (fun _ => False) w wr) (fun i _ => (n + 67) - (intOf i).toNat)
  case atStart => exact ⟨0, by omega, by simp, HL.out, HK.out⟩
  case round =>
    obtain ⟨j, hj, rfl, hLe, hKe⟩ := hrel
    by_cases hlt : j < 67
    · obtain ⟨⟨u, hu⟩, hfz⟩ := hLe.cells (k := n + j) (by rw [HN.out]; omega)
      have HLS := hid_of (hLe.step hlt)
      rw [HN.out] at HLS
      have HKS : Hid (Kept (fun _ => False) w (wr.setCell ⟨w.heap.size, n + j, none⟩ (.int .u8 169))) := hKe.setCell (.inl (Nat.le_refl _)) _
      have hjI : (n : Int) + (j : Int) < (n : Int) + 67 := by omega
      clear hLe hKe HL HK
      go_wp2
      go_roundw
      case rel => exact ⟨j + 1, by omega, by go_num, HLS.out, HKS.out⟩
      case measure => simp [intOf]; omega
    · obtain rfl : j = 67 := by omega
      have HLS := hid_of hLe
      have HKS := hid_of hKe
      clear hLe hKe HL HK
      go_wp2
      go_ret
      refine ⟨?_, HLS.out, HKS.out⟩
      rw [HN.out]
      rfl

/-- While lent bytes are written over. -/
def Over2 (w wr : World) (g n : Nat) : Prop := (∃ cur : Array Value, wr.heap[g]? = some (.cells cur 5 (0, 0)) ∧ cur.size = n) ∧ Kept (fun k => k = g) w wr
theorem Over2.cells {w wr : World} {g n k : Nat} (h : Over2 w wr g n) (hk : k < n) : (∃ u, wr.cell? ⟨g, k, none⟩ = some u) ∧ wr.frozen? ⟨g, k, none⟩ = false := by
  obtain ⟨⟨cur, h0, h1⟩, _⟩ := h
  refine ⟨⟨cur[k]'(by omega), ?_⟩, frozen_block _ _ _ _ _ h0⟩
  rw [cell_block _ _ _ _ _ _ h0]
  exact Array.getElem?_eq_getElem (by omega)
theorem Over2.step {w wr : World} {g n : Nat} (h : Over2 w wr g n) (k : Nat) (u : Value) : Over2 w (wr.setCell ⟨g, k, none⟩ u) g n := by
  obtain ⟨⟨cur, h0, h1⟩, h2⟩ := h
  exact ⟨⟨_, set_block _ _ _ _ _ _ h0 _, by simp [h1]⟩, h2.trans (kept_set wr g k u)⟩

set_option maxRecDepth 100000 in
set_option maxHeartbeats 1000000 in
theorem held2_any (g : Nat) (v : Value) (xs : List Int) (w : World) (hl : Lent2 w g xs 67) (hx : IsB w v xs) (hn : xs.length ≤ 140737488355261) :
    Calls Tryz.prog 35 #[.slice (some ⟨g, 0, none⟩) xs.length (xs.length + 67), v] w fun e w' => e = .returned (.bool true) ∧ Kept (fun k => k = g) w w' := by
  have hs1 := conv_str w _ xs hl.bin
  have hs2 := conv_str w v xs hx
  have HM : Hid (∀ j, j < 67 → w.cell? ⟨g, xs.length + j, none⟩ = some (.int .u8 169)) := fun j hj => hl.mark hj
  have HO : Hid (Over2 w w g (xs.length + 67)) := by
    obtain ⟨cur, h0, h1, h2, h3⟩ := hl
    exact ⟨⟨cur, h0, h1⟩, Kept.refl _ _⟩
  obtain ⟨ao, c, rfl⟩ := hx.shape
  clear hl hx
  generalize str xs = st at *
  generalize xs.length = n at *
  go_enter Tryz.func35, Tryz.ntmps35
  go_wp2
  clear hs1 hs2
  go_loop [5, 7] (fun ok i => ok = .bool true ∧ ∃ j : Nat, j ≤ 67 ∧ i = .int .i64 ((n : Int) + (j : Int))) (fun _ i => (n + 67) - (intOf i).toNat)
  case atStart => exact ⟨rfl, 0, by omega, by simp⟩
  case round =>
    obtain ⟨rfl, j, hj, rfl⟩ := hrel
    by_cases hlt : j < 67
    · have hu := HM.out j hlt
      have hjI : (n : Int) + (j : Int) < (n : Int) + 67 := by omega
      clear HM HO
      go_wp2
      go_round
      case rel => exact ⟨rfl, j + 1, by omega, by go_num⟩
      case measure => simp [intOf]; omega
    · obtain rfl : j = 67 := by omega
      clear HM
      go_wp2
      go_loopw [8] (fun i wr => ∃ k : Nat, k ≤ n + 67 ∧ i = .int .i64 k ∧ Over2 w wr g (n + 67)) (fun i _ => (n + 67) - (intOf i).toNat)
      case atStart => exact ⟨0, by omega, rfl, HO.out⟩
      case round =>
        obtain ⟨k, hk, rfl, hov⟩ := hrel
        by_cases hlt2 : k < n + 67
        · obtain ⟨⟨u, hu⟩, hfz⟩ := hov.cells hlt2
          have HOS := hid_of (hov.step k (.int .u8 94))
          have hkI : (k : Int) < (n : Int) + 67 := by omega
          clear hov HO
          go_wp2
          go_roundw
          case rel => exact ⟨k + 1, by omega, by go_num, HOS.out⟩
          case measure => simp [intOf]; omega
        · have HOS := hid_of hov
          clear hov HO
          go_wp2
          go_ret
          exact ⟨rfl, HOS.out.2⟩
end Go.Proofs.YtgoabnehdmdikaaGreatDoor

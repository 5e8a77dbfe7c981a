/-
  Lend and Back by contract.
-/
import Derived.Test.YtffabihenhejfaaBig
import Derived.Laws.CopyRow
import Derived.Laws.IdiomCopy
namespace Go.Proofs.Ytffabihenhejfaa
open Go.RowKit
set_option linter.unusedVariables false

/-- A block that is lent: the bytes, and so many marks behind them. -/
def Lent (w : World) (g : Nat) (xs : List Int) (j : Nat) : Prop :=
  ∃ cur : Array Value, w.heap[g]? = some (.cells cur 5 (0, 0)) ∧ cur.size = xs.length + 5 ∧ (∀ i, i < xs.length → cur[i]? = some (.int .u8 (xs.getD i 0))) ∧ (∀ i, i < j → cur[xs.length + i]? = some (.int .u8 169))

theorem Lent.cells {w : World} {g : Nat} {xs : List Int} {j k : Nat} (h : Lent w g xs j) (hk : k < xs.length + 5) : (∃ u, w.cell? ⟨g, k, none⟩ = some u) ∧ w.frozen? ⟨g, k, none⟩ = false := by
  obtain ⟨cur, h0, h1, h2, h3⟩ := h
  refine ⟨⟨cur[k]'(by omega), ?_⟩, frozen_block _ _ _ _ _ h0⟩
  rw [cell_block _ _ _ _ _ _ h0]
  exact Array.getElem?_eq_getElem (by omega)

theorem Lent.step {w : World} {g : Nat} {xs : List Int} {j : Nat} (h : Lent w g xs j) (hj : j < 5) : Lent (w.setCell ⟨g, xs.length + j, none⟩ (.int .u8 169)) g xs (j + 1) := by
  obtain ⟨cur, h0, h1, h2, h3⟩ := h
  refine ⟨_, set_block _ _ _ _ _ _ h0 _, by simp [h1], fun i hi => ?_, fun i hi => ?_⟩
  · rw [Array.getElem?_setIfInBounds, if_neg (by omega)]
    exact h2 i hi
  · rw [Array.getElem?_setIfInBounds]
    by_cases e : i = j
    · subst e
      rw [if_pos rfl, if_pos (by omega)]
    · rw [if_neg (by omega)]
      exact h3 i (by omega)

theorem Lent.isB {w : World} {g : Nat} {xs : List Int} {j c : Nat} (h : Lent w g xs j) : IsB w (.slice (some ⟨g, 0, none⟩) xs.length c) xs := by
  obtain ⟨cur, h0, h1, h2, h3⟩ := h
  exact .inr ⟨g, 0, c, rfl, fun i hi => by rw [cell_block _ _ _ _ _ _ h0, Nat.zero_add]; exact h2 i hi⟩

theorem info5size : (Try.prog.info? 5).map (·.size) = some 1 := by kernel_rfl

/-- The copy into the new block. -/
theorem lend_copy (w : World) (v : Value) (xs : List Int) (hx : IsB w v xs) (ty : TypeId) : ∃ W', (Builtin.copy_ #[25, 25] ty #[.slice (some ⟨w.heap.size, 0, none⟩) (xs.length + 5) (xs.length + 5), v]).run Try.prog (w.alloc (.cells (zer (xs.length + 5)) 5)) = .ok (goInt xs.length) W' ∧
    Lent W' w.heap.size xs 0 ∧ Kept (fun _ => False) w W' := by
  have hg := heap_alloc_new w (.cells (zer (xs.length + 5)) 5)
  rcases hx with ⟨rfl, ao, c, rfl⟩ | ⟨g, o, c, rfl, hc⟩
  · refine ⟨_, run_copy_none (P := Try.prog) _ 25 25 ty 5 _ _ _ _ _ _ Try.underlying25 info5size (by simp), ⟨_, hg, by rw [zer_size], fun i hi => absurd hi (by simp), fun i hi => absurd hi (by omega)⟩, (Kept.refl _ _).alloc _⟩
  · have hr := run_copy_row (P := Try.prog) (w.alloc (.cells (zer (xs.length + 5)) 5)) 25 25 ty 5 w.heap.size 0 (xs.length + 5) (xs.length + 5) ⟨g, o, none⟩ xs.length c (zer (xs.length + 5)) 5 (xs.map (Value.int .u8)) Try.underlying25 info5size hg (by simp) (fun j u hj => by
      refine Lib.cell?_alloc_some _ (map_cells rfl (p := ⟨g, o, none⟩) (fun i hi => ?_) j u hj)
      rw [Addr.add_lit]
      exact hc i hi) (by simp [zer_size]) (map_one xs)
    rw [List.length_map] at hr
    refine ⟨_, hr, ⟨_, setRow_heap _ _ _ _ _ _ hg, ?_, fun i hi => ?_, fun i hi => absurd hi (by omega)⟩, ?_⟩
    · simp [zer_size]
    · simp [List.getElem?_append, hi, List.getD]
    · refine ⟨rfl, rfl, rfl, by simp, fun k hk _ => ?_⟩
      rw [setRow_other _ _ _ _ (by omega)]
      exact Below.heap_alloc _ _ _ hk

set_option maxRecDepth 100000 in
set_option maxHeartbeats 1000000 in
theorem lend_any (v : Value) (xs : List Int) (w : World) (hx : IsB w v xs) (hn : xs.length ≤ 140737488351232) :
    Calls Try.prog 13 #[v] w fun e w' => e = .returned (.slice (some ⟨w.heap.size, 0, none⟩) xs.length (xs.length + 5)) ∧ Lent w' w.heap.size xs 5 ∧ Kept (fun _ => False) w w' := by
  obtain ⟨ao, c, rfl⟩ : ∃ ao c, v = .slice ao xs.length c := by
    rcases hx with ⟨rfl, ao, c, rfl⟩ | ⟨g, o, c, rfl, hc⟩
    · exact ⟨_, _, rfl⟩
    · exact ⟨_, _, rfl⟩
  obtain ⟨W', hcp, hl, hk⟩ := lend_copy w _ xs hx 3
  have mk := make_any w (xs.length + 5) (by omega)
  rw [show ((xs.length + 5 : Nat) : Int) = (xs.length : Int) + 5 from by omega] at mk
  have HL := hid_of hl
  have HK := hid_of hk
  clear hl hk hx
  go_enter Try.func13, Try.ntmps13
  go_wp2
  clear mk hcp
  generalize hN : xs.length = n at *
  have HN := hid_of hN
  clear hN
  go_loopw [4] (fun i wr => ∃ j : Nat, j ≤ 5 ∧ i = .int .i64 ((n : Int) + (j : Int)) ∧ Lent wr w.heap.size xs j ∧ Kept (fun _ => False) w wr) (fun i _ => (n + 5) - (intOf i).toNat)
  case atStart => exact ⟨0, by omega, by simp, HL.out, HK.out⟩
  case round =>
    obtain ⟨j, hj, rfl, hLe, hKe⟩ := hrel
    by_cases hlt : j < 5
    · obtain ⟨⟨u, hu⟩, hfz⟩ := hLe.cells (k := n + j) (by rw [HN.out]; omega)
      have HLS := hid_of (hLe.step hlt)
      rw [HN.out] at HLS
      have HKS : Hid (Kept (fun _ => False) w (wr.setCell ⟨w.heap.size, n + j, none⟩ (.int .u8 169))) := hKe.setCell (.inl (Nat.le_refl _)) _
      have hjI : (n : Int) + (j : Int) < (n : Int) + 5 := by omega
      clear hLe hKe HL HK
      go_wp2
      go_roundw
      case rel => exact ⟨j + 1, by omega, by go_num, HLS.out, HKS.out⟩
      case measure => simp [intOf]; omega
    · obtain rfl : j = 5 := by omega
      have HLS := hid_of hLe
      have HKS := hid_of hKe
      clear hLe hKe HL HK
      go_wp2
      go_ret
      refine ⟨?_, HLS.out, HKS.out⟩
      rw [HN.out]
      rfl

theorem kept_drewN {S : Nat → Prop} {a w : World} (h : Kept S a w) (n : Nat) : Kept S a (w.drewN n) := h.trans ⟨rfl, rfl, rfl, Nat.le_refl _, fun _ _ _ => rfl⟩

/-- While lent bytes are written over. -/
def Over (w wr : World) (g n : Nat) : Prop := (∃ cur : Array Value, wr.heap[g]? = some (.cells cur 5 (0, 0)) ∧ cur.size = n) ∧ Kept (fun k => k = g) w wr

theorem Over.cells {w wr : World} {g n k : Nat} (h : Over w wr g n) (hk : k < n) : (∃ u, wr.cell? ⟨g, k, none⟩ = some u) ∧ wr.frozen? ⟨g, k, none⟩ = false := by
  obtain ⟨⟨cur, h0, h1⟩, _⟩ := h
  refine ⟨⟨cur[k]'(by omega), ?_⟩, frozen_block _ _ _ _ _ h0⟩
  rw [cell_block _ _ _ _ _ _ h0]
  exact Array.getElem?_eq_getElem (by omega)
theorem Over.step {w wr : World} {g n : Nat} (h : Over w wr g n) (k : Nat) (u : Value) : Over w (wr.setCell ⟨g, k, none⟩ u) g n := by
  obtain ⟨⟨cur, h0, h1⟩, h2⟩ := h
  exact ⟨⟨_, set_block _ _ _ _ _ _ h0 _, by simp [h1]⟩, h2.trans (kept_set _ _ _ _)⟩

set_option maxRecDepth 100000 in
set_option maxHeartbeats 1000000 in
theorem back_any (g : Nat) (v : Value) (xs : List Int) (w : World) (hl : Lent w g xs 5) (hx : IsB w v xs) (hn : xs.length ≤ 140737488351232) :
    Calls Try.prog 16 #[.slice (some ⟨g, 0, none⟩) xs.length (xs.length + 5), v] w fun e w' => e = .returned (.bool true) ∧ Kept (fun k => k = g) w w' := by
  have hs := same_any (.slice (some ⟨g, 0, none⟩) xs.length (xs.length + 5)) v xs xs w hl.isB hx (by unfold maxLen; omega)
  rw [decide_eq_true (rfl : xs = xs)] at hs
  have HS := hid_of hs
  have HL := hid_of hl
  have hm : ∀ j, j < 5 → w.cell? ⟨g, xs.length + j, none⟩ = some (.int .u8 169) := by
    intro j hj
    obtain ⟨cur, h0, h1, h2, h3⟩ := hl
    rw [cell_block _ _ _ _ _ _ h0]
    exact h3 j hj
  have HM := hid_of hm
  have HO : Hid (Over w w g (xs.length + 5)) := by
    obtain ⟨cur, h0, h1, h2, h3⟩ := hl
    exact ⟨⟨cur, h0, h1⟩, Kept.refl _ _⟩
  clear hs hl hx hm
  generalize xs.length = n at *
  go_enter Try.func16, Try.ntmps16
  go_wp2_with fail
  refine HS.out.mono ?_
  rintro e w1 ⟨rfl, m, rfl⟩
  clear HS
  go_wp2
  go_loop [5, 7] (fun ok i => ok = .bool true ∧ ∃ j : Nat, j ≤ 5 ∧ i = .int .i64 ((n : Int) + (j : Int))) (fun _ i => (n + 5) - (intOf i).toNat)
  case atStart => exact ⟨rfl, 0, by omega, by simp⟩
  case round =>
    obtain ⟨rfl, j, hj, rfl⟩ := hrel
    by_cases hlt : j < 5
    · have hu := HM.out j hlt
      have hjI : (n : Int) + (j : Int) < (n : Int) + 5 := by omega
      clear HM HO HL
      go_wp2
      go_round
      case rel => exact ⟨rfl, j + 1, by omega, by go_num⟩
      case measure => simp [intOf]; omega
    · obtain rfl : j = 5 := by omega
      clear HM HL
      go_wp2
      go_loopw [8] (fun i wr => ∃ k : Nat, k ≤ n + 5 ∧ i = .int .i64 k ∧ Over w wr g (n + 5)) (fun i _ => (n + 5) - (intOf i).toNat)
      case atStart => exact ⟨0, by omega, rfl, HO.out.1, kept_drewN HO.out.2 m⟩
      case round =>
        obtain ⟨k, hk, rfl, hov⟩ := hrel
        by_cases hlt2 : k < n + 5
        · obtain ⟨⟨u, hu⟩, hfz⟩ := hov.cells hlt2
          have HOS := hid_of (hov.step k (.int .u8 94))
          have hkI : (k : Int) < (n : Int) + 5 := by omega
          clear hov HO
          go_wp2
          go_roundw
          case rel => exact ⟨k + 1, by omega, by go_num, HOS.out⟩
          case measure => simp [intOf]; omega
        · have HOS := hid_of hov
          clear hov HO
          go_wp2
          go_ret
          exact ⟨rfl, HOS.out.2⟩
end Go.Proofs.Ytffabihenhejfaa

/-
  The law's Kept by contract.
-/
import Derived.Test.YtdbogfjkaebeoaaDoorParts
namespace Go.Proofs.YtdbogfjkaebeoaaDoor
open Go.RowKit
set_option linter.unusedVariables false
set_option linter.unusedSimpArgs false

/-- What a text of bytes is. -/
theorem bin_str {w : World} {v : Value} {xs : List Int} (h : BIn w v xs) : (convert 25 9 v).run Tryd.prog w = .ok (.string (strOf xs)) w := by
  obtain ⟨ao, c, rfl, hc, hx⟩ := h
  cases ao with
  | none =>
    have e : xs = [] := by
      rcases hx with h | ⟨b, o, h, _⟩
      · exact h
      · cases h
    subst e
    rw [run_convert_bytes_string w 25 9 5 none _ c Tryd.underlying25 Tryd.underlying5 Tryd.underlying9]
    rfl
  | some p =>
    have hl : (loadCells p xs.length).run Tryd.prog w = .ok (xs.map (Value.int .u8)).toArray w := by
      have hcl : ∀ j u, (xs.map (Value.int .u8))[j]? = some u → w.cell? (p.add j) = some u := by
        rcases hx with rfl | ⟨b, o, h, hx⟩
        · intro j u hj
          simp at hj
        · cases h
          exact mapc hx
      have := run_loadCells_list (P := Tryd.prog) w p (xs.map (Value.int .u8)) hcl
      rw [List.length_map] at this
      exact this
    rw [run_convert_bytes_string w 25 9 5 _ _ c Tryd.underlying25 Tryd.underlying5 Tryd.underlying9]
    exact run_bytesToString w p _ c xs hl

/-- While lent bytes are written over. -/
def Over (w wr : World) (g n : Nat) : Prop := (∃ cur : Array Value, wr.heap[g]? = some (.cells cur 5 (0, 0)) ∧ cur.size = n) ∧ Kept (fun k => k = g) w wr
theorem Over.cells {w wr : World} {g n k : Nat} (h : Over w wr g n) (hk : k < n) : (∃ u, wr.cell? ⟨g, k, none⟩ = some u) ∧ wr.frozen? ⟨g, k, none⟩ = false := by
  obtain ⟨⟨cur, h0, h1⟩, _⟩ := h
  refine ⟨⟨cur[k]'(by omega), ?_⟩, frozen_block _ _ _ _ _ h0⟩
  rw [cell_block _ _ _ _ _ _ h0]
  exact Array.getElem?_eq_getElem (by omega)
theorem Over.step {w wr : World} {g n : Nat} (h : Over w wr g n) (k : Nat) (u : Value) : Over w (wr.setCell ⟨g, k, none⟩ u) g n := by
  obtain ⟨⟨cur, h0, h1⟩, h2⟩ := h
  exact ⟨⟨_, set_block _ _ _ _ _ _ h0 _, by simp [h1]⟩, h2.trans (kept_set wr ⟨g, k, none⟩ u)⟩

set_option maxRecDepth 100000 in
set_option maxHeartbeats 1000000 in
theorem held_any (g : Nat) (v : Value) (xs : List Int) (w : World) (hl : Lent w g xs 67) (hx : BIn w v xs) (hn : xs.length ≤ 140737488350000) :
    Calls Tryd.prog 13 #[.slice (some ⟨g, 0, none⟩) xs.length (xs.length + 67), v] w fun e w' => e = .returned (.bool true) ∧ Kept (fun k => k = g) w w' := by
  have hs1 := bin_str hl.bin
  have hs2 := bin_str hx
  have HM : Hid (∀ j, j < 67 → w.cell? ⟨g, xs.length + j, none⟩ = some (.int .u8 169)) := fun j hj => hl.mark hj
  have HO : Hid (Over w w g (xs.length + 67)) := by
    obtain ⟨cur, h0, h1, h2, h3⟩ := hl
    exact ⟨⟨cur, h0, h1⟩, Kept.refl _ _⟩
  obtain ⟨ao, c, rfl⟩ : ∃ ao c, v = .slice ao xs.length c := by
    obtain ⟨ao, c, h, _⟩ := hx
    exact ⟨ao, c, h⟩
  clear hl hx
  generalize strOf xs = st at *
  generalize xs.length = n at *
  go_enter Tryd.func13, Tryd.ntmps13
  go_wp2
  clear hs1 hs2
  go_loop [5, 7] (fun ok i => ok = .bool true ∧ ∃ j : Nat, j ≤ 67 ∧ i = .int .i64 ((n : Int) + (j : Int))) (fun _ i => (n + 67) - (intOf i).toNat)
  case atStart => exact ⟨rfl, 0, by omega, by simp⟩
  case round =>
    obtain ⟨rfl, j, hj, rfl⟩ := hrel
    by_cases hlt : j < 67
    · have hu := HM.out j hlt
      have hjI : (n : Int) + (j : Int) < (n : Int) + 67 := by omega
      clear HM HO
      go_wp2
      go_round
      case rel => exact ⟨rfl, j + 1, by omega, by go_num⟩
      case measure => simp [intOf]; omega
    · obtain rfl : j = 67 := by omega
      clear HM
      go_wp2
      go_loopw [8] (fun i wr => ∃ k : Nat, k ≤ n + 67 ∧ i = .int .i64 k ∧ Over w wr g (n + 67)) (fun i _ => (n + 67) - (intOf i).toNat)
      case atStart => exact ⟨0, by omega, rfl, HO.out⟩
      case round =>
        obtain ⟨k, hk, rfl, hov⟩ := hrel
        by_cases hlt2 : k < n + 67
        · obtain ⟨⟨u, hu⟩, hfz⟩ := hov.cells hlt2
          have HOS := hid_of (hov.step k (.int .u8 94))
          have hkI : (k : Int) < (n : Int) + 67 := by omega
          clear hov HO
          go_wp2
          go_roundw
          case rel => exact ⟨k + 1, by omega, by go_num, HOS.out⟩
          case measure => simp [intOf]; omega
        · have HOS := hid_of hov
          clear hov HO
          go_wp2
          go_ret
          exact ⟨rfl, HOS.out.2⟩
end Go.Proofs.YtdbogfjkaebeoaaDoor

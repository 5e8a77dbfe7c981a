/-
  New, bytes.Clone, Done by contract.
-/
import Derived.Test.YtffabihenhejfaaWr
import Derived.Deep.RegionHeld3
import Derived.Lib.SliceRun
namespace Go.Proofs.Ytffabihenhejfaa
open Go.RowKit
set_option linter.unusedVariables false

set_option maxHeartbeats 400000 in
theorem new_any (w : World) : Calls Try.prog 9 #[] w fun e w' => e = .returned (.pointer (some ⟨w.heap.size, 0, none⟩)) ∧ w' = w.alloc (.cells #[.slice none 0 0, .int .i64 0] 78) := by
  go_enter Try.func9, Try.ntmps9
  go_wp2
  go_ret
  exact ⟨rfl, rfl⟩

theorem eqNil (w : World) (a : Option Addr) (n c n' c' : Nat) : (binOp .eql 25 (.slice a n c) (.slice none n' c')).run Try.prog w = .ok (.bool a.isNone) w := Lib.run_eql_slice_nil w _ _ a n c n' c' Try.underlying25

set_option maxRecDepth 100000 in
set_option maxHeartbeats 400000 in
theorem clone_nil (w : World) : Calls Try.prog 52 #[.slice none 0 0] w fun e w' => e = .returned (.slice none 0 0) ∧ w' = w := by
  have q := eqNil
  go_enter Try.func52, Try.ntmps52
  go_wp2
  go_ret
  exact ⟨rfl, rfl⟩

set_option maxRecDepth 100000 in
set_option maxHeartbeats 400000 in
theorem clone_any (p : Addr) (m c : Nat) (xs : List Int) (w : World) (hx : xs.length = m) (hbig : m ≤ 140737488355328)
    (hc : ∀ i, i < m → w.cell? (p.add i) = some (.int .u8 (xs.getD i 0))) :
    Calls Try.prog 52 #[.slice (some p) m c] w fun e w' => ∃ v', e = .returned v' ∧ w'.ownsRow w.heap.size 5 1 v' m (xs.map (Value.int .u8)) ∧ v' ≠ .slice none 0 0 ∧ Below w.heap.size w w' := by
  obtain ⟨i0, hi, hz0, hz1, hz2⟩ := info_parts Try.info5
  have hc' : ∀ j u, (xs.map (Value.int .u8))[j]? = some u → (w.alloc (.cells #[] 5)).cell? (p.add j) = some u := fun j u h => Lib.cell?_alloc_some _ (map_cells hx hc j u h)
  have A : Hid (∀ j u, (xs.map (Value.int .u8))[j]? = some u → (w.alloc (.cells #[] 5)).cell? (p.add j) = some u) := hc'
  clear hc hc'
  have q := eqNil
  go_enter Try.func52, Try.ntmps52
  go_wp2_with (at_builtin; refine wpList_append_own _ rfl _ _ 25 rfl w.heap.size 5 i0 (.int .u8 0) 1 1 Try.underlying25 hi hz0 hz1 hz2 rfl (by decide) _ _ _ rfl (World.ownsRow_made w #[] 0 (Nat.le_refl _) (Nat.zero_le _) rfl) p m c (xs.map (Value.int .u8)) rfl (by simp [hx]) A.out (map_one xs) (by unfold maxLen; omega) (by omega) (by simp) ?_)
  intro v' w1 hown hgrow hnil
  go_wp2
  go_ret
  refine ⟨v', rfl, by simpa using hown, ?_, ?_⟩
  · exact hnil
  · exact ((Below.refl _ w).alloc (Nat.le_refl _) _).grown hgrow (by simp) (by intro k hk; rw [← Option.some.inj hk]; exact Nat.le_refl _)

/-- Done of a Writer without a fault: its bytes, in memory of the call's own. -/
theorem done_close {w w1 : World} {a : Nat} {v : Value} {l : List Int} (hw : Wr w a v l) (hb : Below w.heap.size w w1) : Wr w1 a v l := by
  obtain ⟨h0, h1, h2⟩ := hw
  refine ⟨(hb.block a (Array.getElem?_eq_some_iff.1 h0).1).trans h0, (kept_of_below hb).ownsRow h1 (fun g hg => ?_), h2⟩
  have := (h1.lt g hg).2
  omega

theorem wr_cells {w : World} {a : Nat} {v : Value} {l : List Int} (hw : Wr w a v l) : w.cell? ⟨a, 0, none⟩ = some v ∧ w.cell? ⟨a, 1, none⟩ = some (.int .i64 0) ∧ w.frozen? ⟨a, 0, none⟩ = false ∧ w.frozen? ⟨a, 1, none⟩ = false ∧ a < w.heap.size :=
  ⟨by rw [cell_block w a 0 _ _ _ hw.1]; rfl, by rw [cell_block w a 1 _ _ _ hw.1]; rfl, frozen_block w a 0 _ _ hw.1, frozen_block w a 1 _ _ hw.1, (Array.getElem?_eq_some_iff.1 hw.1).1⟩

set_option maxRecDepth 100000 in
set_option maxHeartbeats 1000000 in
theorem done_nil (a : Nat) (w : World) (hw : Wr w a (.slice none 0 0) []) :
    Calls Try.prog 29 #[.pointer (some ⟨a, 0, none⟩)] w fun e w' => ∃ v', e = .returned (.tuple #[v', .int .i64 0]) ∧ w'.ownsRow w.heap.size 5 1 v' 0 [] ∧ Below w.heap.size w w' := by
  obtain ⟨h0, h1, _, _, hal⟩ := wr_cells hw
  go_enter Try.func29, Try.ntmps29
  go_wp2
  go_region_held3 (fun w' => w'.cell? ⟨a, 0, none⟩ = some (.slice none 0 0) ∧ w'.cell? ⟨a, 1, none⟩ = some (.int .i64 0) ∧ Below w.heap.size w w') (first | exact ⟨h0, h1, (Below.refl _ _).drew⟩ | assumption | go_keep)
    (first | (go_at_call 52; refine (clone_nil _).mono ?_; rintro e w' ⟨rfl, rfl⟩))
  go_wp2
  go_ret2
  exact ⟨_, rfl, World.ownsRow_nil _ _ _ _, (Below.refl _ _).drew⟩

set_option maxRecDepth 100000 in
set_option maxHeartbeats 1000000 in
theorem done_row (a g cap : Nat) (l : List Int) (w : World) (hw : Wr w a (.slice (some ⟨g, 0, none⟩) l.length cap) l) (hbig : l.length ≤ 4194304) :
    Calls Try.prog 29 #[.pointer (some ⟨a, 0, none⟩)] w fun e w' => ∃ v', e = .returned (.tuple #[v', .int .i64 0]) ∧ w'.ownsRow w.heap.size 5 1 v' l.length (l.map (Value.int .u8)) ∧ Below w.heap.size w w' := by
  obtain ⟨h0, h1, _, _, hal⟩ := wr_cells hw
  have hcs : ∀ i, i < l.length → w.drew.cell? ((⟨g, 0, none⟩ : Addr).add i) = some (.int .u8 (l.getD i 0)) := by
    intro i hi
    have := hw.2.1.cells (g := g) rfl i (.int .u8 (l.getD i 0)) (by simp [List.getElem?_map, List.getElem?_eq_getElem hi, List.getD])
    simpa using this
  have hcl := (clone_any ⟨g, 0, none⟩ l.length cap l w.drew rfl (by omega) hcs)
  clear hcs
  clear hw
  go_enter Try.func29, Try.ntmps29
  go_wp2
  go_region_held3 (fun w' => w'.cell? ⟨a, 0, none⟩ = some (.slice (some ⟨g, 0, none⟩) l.length cap) ∧ w'.cell? ⟨a, 1, none⟩ = some (.int .i64 0)) (first | exact ⟨h0, h1⟩ | exact ⟨k0, k1⟩)
    (first | (go_at_call 52; refine hcl.mono ?_; rintro e w1 ⟨v', rfl, hown, hnn, hb⟩; have k0 := (hb.cell (p := ⟨a, 0, none⟩) hal).trans h0; have k1 := (hb.cell (p := ⟨a, 1, none⟩) hal).trans h1))
  go_wp2
  go_ret2
  exact ⟨_, rfl, hown, ((Below.refl w.heap.size w).drew).trans hb⟩

theorem done_any (a : Nat) (v : Value) (l : List Int) (w : World) (hw : Wr w a v l) (hbig : l.length ≤ 4194304) :
    Calls Try.prog 29 #[.pointer (some ⟨a, 0, none⟩)] w fun e w' => ∃ v', e = .returned (.tuple #[v', .int .i64 0]) ∧ w'.ownsRow w.heap.size 5 1 v' l.length (l.map (Value.int .u8)) ∧ Below w.heap.size w w' := by
  have hw0 := hw
  obtain ⟨_, ho, _⟩ := hw0
  rcases ho.2 with ⟨rfl, hn⟩ | ⟨g, cap, cur, rfl, _⟩
  · obtain rfl : l = [] := List.length_eq_zero_iff.1 hn
    exact done_nil a w hw
  · exact done_row a g cap l w hw hbig
end Go.Proofs.Ytffabihenhejfaa

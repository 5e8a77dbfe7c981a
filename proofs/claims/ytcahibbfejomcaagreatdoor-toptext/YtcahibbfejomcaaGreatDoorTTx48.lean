import Derived.Test.YtcahibbfejomcaaGreatDoorTTx47
namespace Go.Proofs.YtcahibbfejomcaaGreatDoor
open Go.RowKit
set_option linter.unusedVariables false
set_option linter.unusedSimpArgs false
abbrev S8.lit (s : S8) : Value := .agg #[.int .u32 s.a, .int .u32 s.b, .int .u32 s.c, .int .u32 s.d, .int .u32 s.e, .int .u32 s.f, .int .u32 s.g, .int .u32 s.h]
def Hsh.cells (h : Hsh) : List Value := [.int .u32 h.p.a, .int .u32 h.p.b, .int .u32 h.p.c, .int .u32 h.p.d, .int .u32 h.p.e, .int .u32 h.p.f, .int .u32 h.p.g, .int .u32 h.p.h] ++ (h.t.map (Value.int .u8) ++ [.int .i64 (h.n : Int)])
def HashIs (w : World) (g : Nat) (h : Hsh) : Prop := w.heap[g]? = some (.cells h.cells.toArray 91 (0, 0)) ∧ h.t.length = 64 ∧ ∀ x ∈ h.t, 0 ≤ x ∧ x < 256
def HashAt (w : World) (g : Nat) (xs : List Int) : Prop := ∃ h, HashIs w g h ∧ h.Of xs
theorem Hsh.size (h : Hsh) (hl : h.t.length = 64) : h.cells.toArray.size = 73 := by simp [Hsh.cells, hl]
theorem HashIs.len {w : World} {g : Nat} {h : Hsh} (H : HashIs w g h) : w.cell? ⟨g, 72, none⟩ = some (.int .i64 (h.n : Int)) := by
 rw [cell_block _ _ _ _ _ _ H.1]
 simp [Hsh.cells, H.2.1, List.getElem?_append]
theorem HashIs.fz {w : World} {g : Nat} {h : Hsh} (H : HashIs w g h) (i : Nat) : w.frozen? ⟨g, i, none⟩ = false := frozen_block _ _ _ _ _ H.1
theorem HashIs.tail {w : World} {g : Nat} {h : Hsh} (H : HashIs w g h) : w.rangeAt g 8 (h.t.map (Value.int .u8)) := by
 intro j v hv
 have hj : j < 64 := by have := (List.getElem?_eq_some_iff.1 hv).1; simpa [H.2.1] using this
 rw [cell_block _ _ _ _ _ _ H.1, Hsh.cells, List.getElem?_toArray, List.getElem?_append_right (by simp), List.getElem?_append_left (by simp [H.2.1]; omega)]
 simpa using hv
theorem HashIs.past {w : World} {g : Nat} {h : Hsh} (H : HashIs w g h) (i : Nat) (hi : i < 8) : w.cell? ⟨g, i, none⟩ = ([.int .u32 h.p.a, .int .u32 h.p.b, .int .u32 h.p.c, .int .u32 h.p.d, .int .u32 h.p.e, .int .u32 h.p.f, .int .u32 h.p.g, .int .u32 h.p.h] : List Value)[i]? := by
 rw [cell_block _ _ _ _ _ _ H.1, Hsh.cells, List.getElem?_toArray, List.getElem?_append_left (by simpa using hi)]
theorem HashIs.kept {S : Nat → Prop} {w w' : World} {g : Nat} {h : Hsh} (H : HashIs w g h) (hk : Kept S w w') (hs : ¬ S g) : HashIs w' g h :=
 ⟨(hk.block g (Array.getElem?_eq_some_iff.1 H.1).1 hs).trans H.1, H.2⟩
theorem HashIs.setn {w : World} {g : Nat} {h : Hsh} (H : HashIs w g h) (m : Nat) : HashIs (w.setCell ⟨g, 72, none⟩ (.int .i64 (m : Int))) g { h with n := m } := by
 refine ⟨?_, H.2⟩
 rw [set_block _ _ _ _ _ _ H.1]
 congr 2
 rw [List.setIfInBounds_toArray]
 congr 1
 simp only [Hsh.cells]
 rw [List.set_append_right _ _ (by simp), List.set_append_right _ _ (by simp [H.2.1])]
 simp [H.2.1]
theorem set_list {w : World} {g : Nat} {l : List Value} {t : TypeId} {f : Nat × Nat} (H : w.heap[g]? = some (.cells l.toArray t f)) (i : Nat) (u : Value) : (w.setCell ⟨g, i, none⟩ u).heap[g]? = some (.cells (l.set i u).toArray t f) := by
 rw [set_block _ _ _ _ _ _ H, List.setIfInBounds_toArray]
theorem HashIs.setp {w : World} {g : Nat} {h : Hsh} (H : HashIs w g h) (s : S8) : HashIs ((((((((w.setCell ⟨g, 0, none⟩ (.int .u32 s.a)).setCell ⟨g, 1, none⟩ (.int .u32 s.b)).setCell ⟨g, 2, none⟩ (.int .u32 s.c)).setCell ⟨g, 3, none⟩ (.int .u32 s.d)).setCell ⟨g, 4, none⟩ (.int .u32 s.e)).setCell ⟨g, 5, none⟩ (.int .u32 s.f)).setCell ⟨g, 6, none⟩ (.int .u32 s.g)).setCell ⟨g, 7, none⟩ (.int .u32 s.h)) g { h with p := s } := by
 refine ⟨?_, H.2⟩
 have := (set_list (set_list (set_list (set_list (set_list (set_list (set_list (set_list H.1 0 (.int .u32 s.a)) 1 (.int .u32 s.b)) 2 (.int .u32 s.c)) 3 (.int .u32 s.d)) 4 (.int .u32 s.e)) 5 (.int .u32 s.f)) 6 (.int .u32 s.g)) 7 (.int .u32 s.h))
 simp only [Hsh.cells, List.cons_append, List.set_cons_zero, List.set_cons_succ] at this
 exact this
theorem start_lit (w : World) : Calls Tryz.prog 49 #[] w fun e w' => e = .returned s0.lit ∧ Kept (fun _ => False) w w' := start_any w
theorem turned_lit (s : S8) (bs : List Int) (hl : bs.length = 64) (hr : ∀ x ∈ bs, 0 ≤ x ∧ x < 256) (w : World) (hL : Laid w) :
  Calls Tryz.prog 35 #[s.lit, .agg (bs.map (Value.int .u8)).toArray] w fun e w' => e = .returned (turn s bs).lit ∧ Kept (fun _ => False) w w' := turned_any s bs hl hr w hL
set_option maxRecDepth 100000 in
set_option maxHeartbeats 1000000 in
theorem state_any (g : Nat) (h : Hsh) (w : World) (H : HashIs w g h) (hn : h.n < 4611686018427387904) :
  Calls Tryz.prog 34 #[.pointer (some ⟨g, 0, none⟩)] w fun e w' => e = .returned h.now.lit ∧ Kept (fun _ => False) w w' := by
 have hc := H.len
 have c0 := H.past 0 (by decide)
 have c1 := H.past 1 (by decide)
 have c2 := H.past 2 (by decide)
 have c3 := H.past 3 (by decide)
 have c4 := H.past 4 (by decide)
 have c5 := H.past 5 (by decide)
 have c6 := H.past 6 (by decide)
 have c7 := H.past 7 (by decide)
 simp only [List.getElem?_cons_zero, List.getElem?_cons_succ] at c0 c1 c2 c3 c4 c5 c6 c7
 have hgs : g < w.heap.size := (Array.getElem?_eq_some_iff.1 H.1).1
 have hst := start_lit (w.alloc (.cells #[.int .u32 0, .int .u32 0, .int .u32 0, .int .u32 0, .int .u32 0, .int .u32 0, .int .u32 0, .int .u32 0] 88))
 by_cases hlt : h.n < 64
 ·have hI : (h.n : Int) < 64 := by omega
  have hX : h.now = s0 := by unfold Hsh.now; rw [if_pos hlt]
  have HX := hid_of hX
  clear hX
  go_enter Tryz.func34, Tryz.ntmps34
  go_wp2_with fail
  refine hst.mono ?_
  rintro e w1 ⟨rfl, hk⟩
  have hB := (hk.block w.heap.size (by simp) id).trans (alloc_new w _ rfl)
  have hK := ((Kept.refl _ w).alloc _).trans hk
  have HB := hid_of hB
  have HK := hid_of hK
  have d0 : w1.cell? ⟨w.heap.size, 0, none⟩ = some (.int .u32 0) := cell_block _ _ _ _ _ _ hB
  have f0 : w1.frozen? ⟨w.heap.size, 0, none⟩ = false := frozen_block _ _ _ _ _ hB
  have d1 : w1.cell? ⟨w.heap.size, 1, none⟩ = some (.int .u32 0) := cell_block _ _ _ _ _ _ hB
  have f1 : w1.frozen? ⟨w.heap.size, 1, none⟩ = false := frozen_block _ _ _ _ _ hB
  have d2 : w1.cell? ⟨w.heap.size, 2, none⟩ = some (.int .u32 0) := cell_block _ _ _ _ _ _ hB
  have f2 : w1.frozen? ⟨w.heap.size, 2, none⟩ = false := frozen_block _ _ _ _ _ hB
  have d3 : w1.cell? ⟨w.heap.size, 3, none⟩ = some (.int .u32 0) := cell_block _ _ _ _ _ _ hB
  have f3 : w1.frozen? ⟨w.heap.size, 3, none⟩ = false := frozen_block _ _ _ _ _ hB
  have d4 : w1.cell? ⟨w.heap.size, 4, none⟩ = some (.int .u32 0) := cell_block _ _ _ _ _ _ hB
  have f4 : w1.frozen? ⟨w.heap.size, 4, none⟩ = false := frozen_block _ _ _ _ _ hB
  have d5 : w1.cell? ⟨w.heap.size, 5, none⟩ = some (.int .u32 0) := cell_block _ _ _ _ _ _ hB
  have f5 : w1.frozen? ⟨w.heap.size, 5, none⟩ = false := frozen_block _ _ _ _ _ hB
  have d6 : w1.cell? ⟨w.heap.size, 6, none⟩ = some (.int .u32 0) := cell_block _ _ _ _ _ _ hB
  have f6 : w1.frozen? ⟨w.heap.size, 6, none⟩ = false := frozen_block _ _ _ _ _ hB
  have d7 : w1.cell? ⟨w.heap.size, 7, none⟩ = some (.int .u32 0) := cell_block _ _ _ _ _ _ hB
  have f7 : w1.frozen? ⟨w.heap.size, 7, none⟩ = false := frozen_block _ _ _ _ _ hB
  generalize hs0 : s0 = t at *
  have HT := hid_of hs0
  clear hk hK hB hst hs0 c0 c1 c2 c3 c4 c5 c6 c7 hc
  go_wp2
  have hh : w.heap.size ≤ w.heap.size ∨ False := .inl (Nat.le_refl _)
  refine bodyPost_ret (v := t.lit) ?_ rfl ⟨by rw [HX.out], ((((((((HK.out).setCell hh _).setCell hh _).setCell hh _).setCell hh _).setCell hh _).setCell hh _).setCell hh _).setCell hh _⟩
  exact results_cell_row (by rfl) _ _ w.heap.size 88 _ (0, 0) _ (by rfl) (set_block _ _ _ _ _ _ (set_block _ _ _ _ _ _ (set_block _ _ _ _ _ _ (set_block _ _ _ _ _ _ (set_block _ _ _ _ _ _ (set_block _ _ _ _ _ _ (set_block _ _ _ _ _ _ (set_block _ _ _ _ _ _ HB.out _) _) _) _) _) _) _) _) Tryz.underlying88 rfl size48
 ·have hI : ¬ (h.n : Int) < 64 := by omega
  have hX : h.now = h.p := by unfold Hsh.now; rw [if_neg hlt]
  have HX := hid_of hX
  clear hX
  go_enter Tryz.func34, Tryz.ntmps34
  go_wp2
  refine bodyPost_ret (v := h.p.lit) ?_ rfl ⟨by rw [HX.out], (Kept.refl _ _).alloc _⟩
  exact results_cell_row (by rfl) _ _ w.heap.size 88 _ (0, 0) _ (by rfl) (alloc_new _ _ rfl) Tryz.underlying88 rfl size48
end Go.Proofs.YtcahibbfejomcaaGreatDoor

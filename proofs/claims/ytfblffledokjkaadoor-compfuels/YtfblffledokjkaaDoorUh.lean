/-
  Code is written: part by part.
-/
import Derived.Test.YtfblffledokjkaaDoorUg
namespace Go.Proofs.YtfblffledokjkaaDoor
open Go.RowKit
set_option linter.unusedVariables false
set_option linter.unusedSimpArgs false
set_option maxRecDepth 100000

set_option maxHeartbeats 8000000 in
theorem wpart_4 {ov : Value} {base : Nat} {T : World → List Ln → Prop} (hO : ShOk ov base T) (gw gf gp : Nat) (ev : Value) (l : List Ln) (w : World) (hl : l.length ≤ 40) (hT : T w l) (hS : SumU w gf gp) (hgf : gf < base) (hgp : gp < base) (hw : w.heap[gw]? = some (.cells #[.slice (some ⟨gp, 0, none⟩) 5 5, .int .i64 4, ev, .slice none 0 0, ov] 98 (0, 0))) (hgb : base ≤ gw) :
    Calls Tryd.prog 33 #[.pointer (some ⟨gw, 0, none⟩)] w fun e w' => e = .returned (.tuple #[]) ∧ T w' (l ++ [(4, 3, 2)]) ∧ w'.heap[gw]? = some (.cells #[.slice (some ⟨gp, 0, none⟩) 5 5, .int .i64 5, ev, .slice none 0 0, ov] 98 (0, 0)) ∧ Kept (fun q => base ≤ q) w w' ∧ Keep88 w w' := by
  obtain ⟨W1, hW1⟩ : ∃ W, W = w.setCell ⟨gw, 1, none⟩ (.int .i64 5) := ⟨_, rfl⟩
  have hk1 : Kept (fun q => q = gw) w W1 := by rw [hW1]; exact kept_set w gw 1 (.int .i64 5)
  have hw1 : W1.heap[gw]? = some (.cells #[.slice (some ⟨gp, 0, none⟩) 5 5, .int .i64 5, ev, .slice none 0 0, ov] 98 (0, 0)) := by rw [hW1]; exact set_block w gw 1 _ _ _ hw (.int .i64 5)
  have hT1 := hO.kept w W1 l gw _ hT hw hk1
  have hS1 := hS.kept hk1 (by omega) (by omega)
  have hq1 := keep_of hk1 (fun q cs hq e => by subst e; rw [hw] at hq; simp at hq)
  obtain ⟨W2, hW2⟩ : ∃ W, W = W1.alloc (.cells #[.int .i64 12, .int .i64 2, .int .i64 0] 88) := ⟨_, rfl⟩
  obtain ⟨gx, hgx⟩ : ∃ z, z = W1.heap.size := ⟨_, rfl⟩
  have hk2 : Kept (fun _ => False) W1 W2 := by rw [hW2]; exact (Kept.refl _ _).alloc _
  have hx2 : W2.heap[gx]? = some (.cells #[.int .i64 12, .int .i64 2, .int .i64 0] 88 (0, 0)) := by rw [hW2, hgx]; exact heap_alloc_new W1 _
  have hw2 := box_kept hk2 hw1 (fun f => f)
  have hT2 := hO.kept W1 W2 l gw _ hT1 hw1 (hk2.mono (fun _ _ f => f.elim))
  have hS2 := hS1.kept hk2 (fun f => f) (fun f => f)
  have hq2 := hq1.trans (keep_of hk2 (fun _ _ _ f => f))
  have hk02 : Kept (fun q => base ≤ q) w W2 := (hk1.mono (fun q _ e => by rw [e]; exact hgb)).trans (hk2.mono (fun _ _ f => f.elim))
  have q0 : W1.cell? ⟨gp, 12, none⟩ = some (.int .i64 12) := cell_block _ _ _ _ _ _ hS1.p
  have q1 : W1.cell? ⟨gp, 12 + 1, none⟩ = some (.int .i64 2) := cell_block _ _ _ _ _ _ hS1.p
  have q2 : W1.cell? ⟨gp, 12 + 2, none⟩ = some (.int .i64 0) := cell_block _ _ _ _ _ _ hS1.p
  have q1' : W1.cell? ⟨gp, 13, none⟩ = some (.int .i64 2) := q1
  have q2' : W1.cell? ⟨gp, 14, none⟩ = some (.int .i64 0) := q2
  have a0 : w.cell? ⟨gw, 0, none⟩ = some (.slice (some ⟨gp, 0, none⟩) 5 5) := cell_block _ _ 0 _ _ _ hw
  have a1 : w.cell? ⟨gw, 1, none⟩ = some (.int .i64 4) := cell_block _ _ 1 _ _ _ hw
  have af := frozen_block _ _ 1 _ _ hw
  have b0 : W1.cell? ⟨gw, 0, none⟩ = some (.slice (some ⟨gp, 0, none⟩) 5 5) := cell_block _ _ 0 _ _ _ hw1
  obtain ⟨x0, x1, x2, _⟩ := look3 hx2
  have HX2 := hid_of hx2
  have HW2 := hid_of hw2
  have HT2 := hid_of hT2
  have HS2 := hid_of hS2
  have HQ2 := hid_of hq2
  have HK2 := hid_of hk02
  clear hk1 hw1 hT1 hS1 hq1 hk2 hx2 hw2 hT2 hS2 hq2 hk02 hT hS hw
  go_enter Tryd.func33, Tryd.ntmps33
  go_upto_region 2 with fail
  rw [← hW1]
  clear hW1 a0 a1 af
  go_upto_region 3 with fail
  rw [← hW2, ← hgx]
  clear hW2 hgx q0 q1 q2 q1' q2' b0
  go_wp2_with fail
  clear x0 x1 x2
  go_loopw [27] (fun iv wr => ((iv = .int .i64 0 ∧ Hid (T wr l) ∧ Hid (wr.heap[gw]? = some (.cells #[.slice (some ⟨gp, 0, none⟩) 5 5, .int .i64 5, ev, .slice none 0 0, ov] 98 (0, 0))))) ∧ Hid (wr.heap[gx]? = some (.cells #[.int .i64 12, .int .i64 2, .int .i64 0] 88 (0, 0))) ∧ Hid (SumU wr gf gp) ∧ Hid (Kept (fun q => base ≤ q) w wr) ∧ Hid (Keep88 w wr)) (fun iv _ => 0 - (intOf iv).toNat)
  case atStart => exact ⟨⟨rfl, HT2, HW2⟩, HX2, HS2, HK2, HQ2⟩
  case round =>
    clear HX2 HW2 HT2 HS2 HQ2 HK2
    obtain ⟨hcase, HX, HS, HK, HQ⟩ := hrel
    rcases hcase with ⟨rfl, HT, HW⟩
    · have HP := hid_of (behind_12 hO gw gp 5 4 2 ev l wr (by omega) HT.out HW.out (by have h9 := (Array.getElem?_eq_some_iff.1 HW.out).1; omega))
      obtain ⟨x0, x1, x2, _⟩ := look3 HX.out
      go_wp2_with fail
      refine HP.out.mono ?_
      rintro e w5 ⟨rfl, ht5, hw5, hk5, hq5⟩
      have HT5 : Hid (T w5 (l ++ [(4, 3, 2)])) := by have h9 := ht5; (try simp only [List.append_assoc, List.cons_append, List.nil_append] at h9); exact h9
      have HW5 := hid_of hw5
      have HK5 := hid_of (HK.out.trans hk5)
      have HQ5 := hid_of (HQ.out.trans hq5)
      clear ht5 hw5 hk5 hq5 HP HT HW HX HS HK HQ x0 x1 x2
      go_wp2
      refine bodyPost_end (results_none (by rfl) _ _ _) rfl ?_
      exact ⟨rfl, HT5.out, HW5.out, HK5.out, HQ5.out⟩
set_option maxHeartbeats 8000000 in
theorem wpart_3 {ov : Value} {base : Nat} {T : World → List Ln → Prop} (hO : ShOk ov base T) (gw gf gp : Nat) (ev : Value) (l : List Ln) (w : World) (hl : l.length ≤ 35) (hT : T w l) (hS : SumU w gf gp) (hgf : gf < base) (hgp : gp < base) (hw : w.heap[gw]? = some (.cells #[.slice (some ⟨gp, 0, none⟩) 5 5, .int .i64 3, ev, .slice none 0 0, ov] 98 (0, 0))) (hgb : base ≤ gw) :
    Calls Tryd.prog 33 #[.pointer (some ⟨gw, 0, none⟩)] w fun e w' => e = .returned (.tuple #[]) ∧ T w' (l ++ [(3, 3, 1)]) ∧ w'.heap[gw]? = some (.cells #[.slice (some ⟨gp, 0, none⟩) 5 5, .int .i64 4, ev, .slice none 0 0, ov] 98 (0, 0)) ∧ Kept (fun q => base ≤ q) w w' ∧ Keep88 w w' := by
  obtain ⟨W1, hW1⟩ : ∃ W, W = w.setCell ⟨gw, 1, none⟩ (.int .i64 4) := ⟨_, rfl⟩
  have hk1 : Kept (fun q => q = gw) w W1 := by rw [hW1]; exact kept_set w gw 1 (.int .i64 4)
  have hw1 : W1.heap[gw]? = some (.cells #[.slice (some ⟨gp, 0, none⟩) 5 5, .int .i64 4, ev, .slice none 0 0, ov] 98 (0, 0)) := by rw [hW1]; exact set_block w gw 1 _ _ _ hw (.int .i64 4)
  have hT1 := hO.kept w W1 l gw _ hT hw hk1
  have hS1 := hS.kept hk1 (by omega) (by omega)
  have hq1 := keep_of hk1 (fun q cs hq e => by subst e; rw [hw] at hq; simp at hq)
  obtain ⟨W2, hW2⟩ : ∃ W, W = W1.alloc (.cells #[.int .i64 12, .int .i64 1, .int .i64 0] 88) := ⟨_, rfl⟩
  obtain ⟨gx, hgx⟩ : ∃ z, z = W1.heap.size := ⟨_, rfl⟩
  have hk2 : Kept (fun _ => False) W1 W2 := by rw [hW2]; exact (Kept.refl _ _).alloc _
  have hx2 : W2.heap[gx]? = some (.cells #[.int .i64 12, .int .i64 1, .int .i64 0] 88 (0, 0)) := by rw [hW2, hgx]; exact heap_alloc_new W1 _
  have hw2 := box_kept hk2 hw1 (fun f => f)
  have hT2 := hO.kept W1 W2 l gw _ hT1 hw1 (hk2.mono (fun _ _ f => f.elim))
  have hS2 := hS1.kept hk2 (fun f => f) (fun f => f)
  have hq2 := hq1.trans (keep_of hk2 (fun _ _ _ f => f))
  have hk02 : Kept (fun q => base ≤ q) w W2 := (hk1.mono (fun q _ e => by rw [e]; exact hgb)).trans (hk2.mono (fun _ _ f => f.elim))
  have q0 : W1.cell? ⟨gp, 9, none⟩ = some (.int .i64 12) := cell_block _ _ _ _ _ _ hS1.p
  have q1 : W1.cell? ⟨gp, 9 + 1, none⟩ = some (.int .i64 1) := cell_block _ _ _ _ _ _ hS1.p
  have q2 : W1.cell? ⟨gp, 9 + 2, none⟩ = some (.int .i64 0) := cell_block _ _ _ _ _ _ hS1.p
  have q1' : W1.cell? ⟨gp, 10, none⟩ = some (.int .i64 1) := q1
  have q2' : W1.cell? ⟨gp, 11, none⟩ = some (.int .i64 0) := q2
  have a0 : w.cell? ⟨gw, 0, none⟩ = some (.slice (some ⟨gp, 0, none⟩) 5 5) := cell_block _ _ 0 _ _ _ hw
  have a1 : w.cell? ⟨gw, 1, none⟩ = some (.int .i64 3) := cell_block _ _ 1 _ _ _ hw
  have af := frozen_block _ _ 1 _ _ hw
  have b0 : W1.cell? ⟨gw, 0, none⟩ = some (.slice (some ⟨gp, 0, none⟩) 5 5) := cell_block _ _ 0 _ _ _ hw1
  obtain ⟨x0, x1, x2, _⟩ := look3 hx2
  have HX2 := hid_of hx2
  have HW2 := hid_of hw2
  have HT2 := hid_of hT2
  have HS2 := hid_of hS2
  have HQ2 := hid_of hq2
  have HK2 := hid_of hk02
  clear hk1 hw1 hT1 hS1 hq1 hk2 hx2 hw2 hT2 hS2 hq2 hk02 hT hS hw
  go_enter Tryd.func33, Tryd.ntmps33
  go_upto_region 2 with fail
  rw [← hW1]
  clear hW1 a0 a1 af
  go_upto_region 3 with fail
  rw [← hW2, ← hgx]
  clear hW2 hgx q0 q1 q2 q1' q2' b0
  go_wp2_with fail
  clear x0 x1 x2
  go_loopw [27] (fun iv wr => ((iv = .int .i64 0 ∧ Hid (T wr l) ∧ Hid (wr.heap[gw]? = some (.cells #[.slice (some ⟨gp, 0, none⟩) 5 5, .int .i64 4, ev, .slice none 0 0, ov] 98 (0, 0))))) ∧ Hid (wr.heap[gx]? = some (.cells #[.int .i64 12, .int .i64 1, .int .i64 0] 88 (0, 0))) ∧ Hid (SumU wr gf gp) ∧ Hid (Kept (fun q => base ≤ q) w wr) ∧ Hid (Keep88 w wr)) (fun iv _ => 0 - (intOf iv).toNat)
  case atStart => exact ⟨⟨rfl, HT2, HW2⟩, HX2, HS2, HK2, HQ2⟩
  case round =>
    clear HX2 HW2 HT2 HS2 HQ2 HK2
    obtain ⟨hcase, HX, HS, HK, HQ⟩ := hrel
    rcases hcase with ⟨rfl, HT, HW⟩
    · have HP := hid_of (behind_12 hO gw gp 4 3 1 ev l wr (by omega) HT.out HW.out (by have h9 := (Array.getElem?_eq_some_iff.1 HW.out).1; omega))
      obtain ⟨x0, x1, x2, _⟩ := look3 HX.out
      go_wp2_with fail
      refine HP.out.mono ?_
      rintro e w5 ⟨rfl, ht5, hw5, hk5, hq5⟩
      have HT5 : Hid (T w5 (l ++ [(3, 3, 1)])) := by have h9 := ht5; (try simp only [List.append_assoc, List.cons_append, List.nil_append] at h9); exact h9
      have HW5 := hid_of hw5
      have HK5 := hid_of (HK.out.trans hk5)
      have HQ5 := hid_of (HQ.out.trans hq5)
      clear ht5 hw5 hk5 hq5 HP HT HW HX HS HK HQ x0 x1 x2
      go_wp2
      refine bodyPost_end (results_none (by rfl) _ _ _) rfl ?_
      exact ⟨rfl, HT5.out, HW5.out, HK5.out, HQ5.out⟩
set_option maxHeartbeats 8000000 in
theorem wpart_2 {ov : Value} {base : Nat} {T : World → List Ln → Prop} (hO : ShOk ov base T) (gw gf gp : Nat) (ev : Value) (l : List Ln) (w : World) (hl : l.length ≤ 30) (hT : T w l) (hS : SumU w gf gp) (hgf : gf < base) (hgp : gp < base) (hw : w.heap[gw]? = some (.cells #[.slice (some ⟨gp, 0, none⟩) 5 5, .int .i64 2, ev, .slice none 0 0, ov] 98 (0, 0))) (hgb : base ≤ gw) :
    Calls Tryd.prog 33 #[.pointer (some ⟨gw, 0, none⟩)] w fun e w' => e = .returned (.tuple #[]) ∧ T w' (l ++ [(3, 3, 1), (4, 3, 2), (2, 20, 0)]) ∧ w'.heap[gw]? = some (.cells #[.slice (some ⟨gp, 0, none⟩) 5 5, .int .i64 5, ev, .slice none 0 0, ov] 98 (0, 0)) ∧ Kept (fun q => base ≤ q) w w' ∧ Keep88 w w' := by
  obtain ⟨W1, hW1⟩ : ∃ W, W = w.setCell ⟨gw, 1, none⟩ (.int .i64 3) := ⟨_, rfl⟩
  have hk1 : Kept (fun q => q = gw) w W1 := by rw [hW1]; exact kept_set w gw 1 (.int .i64 3)
  have hw1 : W1.heap[gw]? = some (.cells #[.slice (some ⟨gp, 0, none⟩) 5 5, .int .i64 3, ev, .slice none 0 0, ov] 98 (0, 0)) := by rw [hW1]; exact set_block w gw 1 _ _ _ hw (.int .i64 3)
  have hT1 := hO.kept w W1 l gw _ hT hw hk1
  have hS1 := hS.kept hk1 (by omega) (by omega)
  have hq1 := keep_of hk1 (fun q cs hq e => by subst e; rw [hw] at hq; simp at hq)
  obtain ⟨W2, hW2⟩ : ∃ W, W = W1.alloc (.cells #[.int .i64 20, .int .i64 20, .int .i64 2] 88) := ⟨_, rfl⟩
  obtain ⟨gx, hgx⟩ : ∃ z, z = W1.heap.size := ⟨_, rfl⟩
  have hk2 : Kept (fun _ => False) W1 W2 := by rw [hW2]; exact (Kept.refl _ _).alloc _
  have hx2 : W2.heap[gx]? = some (.cells #[.int .i64 20, .int .i64 20, .int .i64 2] 88 (0, 0)) := by rw [hW2, hgx]; exact heap_alloc_new W1 _
  have hw2 := box_kept hk2 hw1 (fun f => f)
  have hT2 := hO.kept W1 W2 l gw _ hT1 hw1 (hk2.mono (fun _ _ f => f.elim))
  have hS2 := hS1.kept hk2 (fun f => f) (fun f => f)
  have hq2 := hq1.trans (keep_of hk2 (fun _ _ _ f => f))
  have hk02 : Kept (fun q => base ≤ q) w W2 := (hk1.mono (fun q _ e => by rw [e]; exact hgb)).trans (hk2.mono (fun _ _ f => f.elim))
  have q0 : W1.cell? ⟨gp, 6, none⟩ = some (.int .i64 20) := cell_block _ _ _ _ _ _ hS1.p
  have q1 : W1.cell? ⟨gp, 6 + 1, none⟩ = some (.int .i64 20) := cell_block _ _ _ _ _ _ hS1.p
  have q2 : W1.cell? ⟨gp, 6 + 2, none⟩ = some (.int .i64 2) := cell_block _ _ _ _ _ _ hS1.p
  have q1' : W1.cell? ⟨gp, 7, none⟩ = some (.int .i64 20) := q1
  have q2' : W1.cell? ⟨gp, 8, none⟩ = some (.int .i64 2) := q2
  have a0 : w.cell? ⟨gw, 0, none⟩ = some (.slice (some ⟨gp, 0, none⟩) 5 5) := cell_block _ _ 0 _ _ _ hw
  have a1 : w.cell? ⟨gw, 1, none⟩ = some (.int .i64 2) := cell_block _ _ 1 _ _ _ hw
  have af := frozen_block _ _ 1 _ _ hw
  have b0 : W1.cell? ⟨gw, 0, none⟩ = some (.slice (some ⟨gp, 0, none⟩) 5 5) := cell_block _ _ 0 _ _ _ hw1
  obtain ⟨x0, x1, x2, _⟩ := look3 hx2
  have HX2 := hid_of hx2
  have HW2 := hid_of hw2
  have HT2 := hid_of hT2
  have HS2 := hid_of hS2
  have HQ2 := hid_of hq2
  have HK2 := hid_of hk02
  clear hk1 hw1 hT1 hS1 hq1 hk2 hx2 hw2 hT2 hS2 hq2 hk02 hT hS hw
  go_enter Tryd.func33, Tryd.ntmps33
  go_upto_region 2 with fail
  rw [← hW1]
  clear hW1 a0 a1 af
  go_upto_region 3 with fail
  rw [← hW2, ← hgx]
  clear hW2 hgx q0 q1 q2 q1' q2' b0
  go_wp2_with fail
  clear x0 x1 x2
  go_loopw [27] (fun iv wr => ((iv = .int .i64 0 ∧ Hid (T wr l) ∧ Hid (wr.heap[gw]? = some (.cells #[.slice (some ⟨gp, 0, none⟩) 5 5, .int .i64 3, ev, .slice none 0 0, ov] 98 (0, 0)))) ∨ (iv = .int .i64 1 ∧ Hid (T wr (l ++ [(3, 3, 1)])) ∧ Hid (wr.heap[gw]? = some (.cells #[.slice (some ⟨gp, 0, none⟩) 5 5, .int .i64 4, ev, .slice none 0 0, ov] 98 (0, 0)))) ∨ (iv = .int .i64 2 ∧ Hid (T wr (l ++ [(3, 3, 1), (4, 3, 2)])) ∧ Hid (wr.heap[gw]? = some (.cells #[.slice (some ⟨gp, 0, none⟩) 5 5, .int .i64 5, ev, .slice none 0 0, ov] 98 (0, 0))))) ∧ Hid (wr.heap[gx]? = some (.cells #[.int .i64 20, .int .i64 20, .int .i64 2] 88 (0, 0))) ∧ Hid (SumU wr gf gp) ∧ Hid (Kept (fun q => base ≤ q) w wr) ∧ Hid (Keep88 w wr)) (fun iv _ => 2 - (intOf iv).toNat)
  case atStart => exact ⟨.inl ⟨rfl, HT2, HW2⟩, HX2, HS2, HK2, HQ2⟩
  case round =>
    clear HX2 HW2 HT2 HS2 HQ2 HK2
    obtain ⟨hcase, HX, HS, HK, HQ⟩ := hrel
    rcases hcase with ⟨rfl, HT, HW⟩ | ⟨rfl, HT, HW⟩ | ⟨rfl, HT, HW⟩
    · have HP := hid_of (wpart_3 hO gw gf gp ev l wr (by omega) HT.out HS.out hgf hgp HW.out hgb)
      go_wp2_with fail
      refine HP.out.mono ?_
      rintro e w5 ⟨rfl, ht5, hw5, hk5, hq5⟩
      have HT5 : Hid (T w5 (l ++ [(3, 3, 1)])) := by have h9 := ht5; (try simp only [List.append_assoc, List.cons_append, List.nil_append] at h9); exact h9
      have HW5 := hid_of hw5
      have HX5 := hid_of (hq5 _ _ HX.out)
      have HS5 := hid_of (HS.out.kept hk5 (by omega) (by omega))
      have HK5 := hid_of (HK.out.trans hk5)
      have HQ5 := hid_of (HQ.out.trans hq5)
      clear ht5 hw5 hk5 hq5 HP HT HW HX HS HK HQ
      go_wp2
      go_roundw
      case rel => exact ⟨.inr (.inl ⟨rfl, HT5, HW5⟩), HX5, HS5, HK5, HQ5⟩
      case measure => simp [intOf]
    · have HP := hid_of (wpart_4 hO gw gf gp ev (l ++ [(3, 3, 1)]) wr (by simp; omega) HT.out HS.out hgf hgp HW.out hgb)
      go_wp2_with fail
      refine HP.out.mono ?_
      rintro e w5 ⟨rfl, ht5, hw5, hk5, hq5⟩
      have HT5 : Hid (T w5 (l ++ [(3, 3, 1), (4, 3, 2)])) := by have h9 := ht5; (try simp only [List.append_assoc, List.cons_append, List.nil_append] at h9); exact h9
      have HW5 := hid_of hw5
      have HX5 := hid_of (hq5 _ _ HX.out)
      have HS5 := hid_of (HS.out.kept hk5 (by omega) (by omega))
      have HK5 := hid_of (HK.out.trans hk5)
      have HQ5 := hid_of (HQ.out.trans hq5)
      clear ht5 hw5 hk5 hq5 HP HT HW HX HS HK HQ
      go_wp2
      go_roundw
      case rel => exact ⟨.inr (.inr (⟨rfl, HT5, HW5⟩)), HX5, HS5, HK5, HQ5⟩
      case measure => simp [intOf]
    · have HP := hid_of (behind_20 hO gw gp 5 2 ev (l ++ [(3, 3, 1), (4, 3, 2)]) wr (by simp; omega) HT.out HW.out (by have h9 := (Array.getElem?_eq_some_iff.1 HW.out).1; omega))
      obtain ⟨x0, x1, x2, _⟩ := look3 HX.out
      go_wp2_with fail
      refine HP.out.mono ?_
      rintro e w5 ⟨rfl, ht5, hw5, hk5, hq5⟩
      have HT5 : Hid (T w5 (l ++ [(3, 3, 1), (4, 3, 2), (2, 20, 0)])) := by have h9 := ht5; (try simp only [List.append_assoc, List.cons_append, List.nil_append] at h9); exact h9
      have HW5 := hid_of hw5
      have HK5 := hid_of (HK.out.trans hk5)
      have HQ5 := hid_of (HQ.out.trans hq5)
      clear ht5 hw5 hk5 hq5 HP HT HW HX HS HK HQ x0 x1 x2
      go_wp2
      refine bodyPost_end (results_none (by rfl) _ _ _) rfl ?_
      exact ⟨rfl, HT5.out, HW5.out, HK5.out, HQ5.out⟩
set_option maxHeartbeats 8000000 in
theorem wpart_1 {ov : Value} {base : Nat} {T : World → List Ln → Prop} (hO : ShOk ov base T) (gw gf gp : Nat) (ev : Value) (l : List Ln) (w : World) (hl : l.length ≤ 25) (hT : T w l) (hS : SumU w gf gp) (hgf : gf < base) (hgp : gp < base) (hw : w.heap[gw]? = some (.cells #[.slice (some ⟨gp, 0, none⟩) 5 5, .int .i64 1, ev, .slice none 0 0, ov] 98 (0, 0))) (hgb : base ≤ gw) :
    Calls Tryd.prog 33 #[.pointer (some ⟨gw, 0, none⟩)] w fun e w' => e = .returned (.tuple #[]) ∧ T w' (l ++ [(3, 3, 1), (4, 3, 2), (2, 20, 0), (1, 18, 0)]) ∧ w'.heap[gw]? = some (.cells #[.slice (some ⟨gp, 0, none⟩) 5 5, .int .i64 5, ev, .slice none 0 0, ov] 98 (0, 0)) ∧ Kept (fun q => base ≤ q) w w' ∧ Keep88 w w' := by
  obtain ⟨W1, hW1⟩ : ∃ W, W = w.setCell ⟨gw, 1, none⟩ (.int .i64 2) := ⟨_, rfl⟩
  have hk1 : Kept (fun q => q = gw) w W1 := by rw [hW1]; exact kept_set w gw 1 (.int .i64 2)
  have hw1 : W1.heap[gw]? = some (.cells #[.slice (some ⟨gp, 0, none⟩) 5 5, .int .i64 2, ev, .slice none 0 0, ov] 98 (0, 0)) := by rw [hW1]; exact set_block w gw 1 _ _ _ hw (.int .i64 2)
  have hT1 := hO.kept w W1 l gw _ hT hw hk1
  have hS1 := hS.kept hk1 (by omega) (by omega)
  have hq1 := keep_of hk1 (fun q cs hq e => by subst e; rw [hw] at hq; simp at hq)
  obtain ⟨W2, hW2⟩ : ∃ W, W = W1.alloc (.cells #[.int .i64 9, .int .i64 0, .int .i64 1] 88) := ⟨_, rfl⟩
  obtain ⟨gx, hgx⟩ : ∃ z, z = W1.heap.size := ⟨_, rfl⟩
  have hk2 : Kept (fun _ => False) W1 W2 := by rw [hW2]; exact (Kept.refl _ _).alloc _
  have hx2 : W2.heap[gx]? = some (.cells #[.int .i64 9, .int .i64 0, .int .i64 1] 88 (0, 0)) := by rw [hW2, hgx]; exact heap_alloc_new W1 _
  have hw2 := box_kept hk2 hw1 (fun f => f)
  have hT2 := hO.kept W1 W2 l gw _ hT1 hw1 (hk2.mono (fun _ _ f => f.elim))
  have hS2 := hS1.kept hk2 (fun f => f) (fun f => f)
  have hq2 := hq1.trans (keep_of hk2 (fun _ _ _ f => f))
  have hk02 : Kept (fun q => base ≤ q) w W2 := (hk1.mono (fun q _ e => by rw [e]; exact hgb)).trans (hk2.mono (fun _ _ f => f.elim))
  have q0 : W1.cell? ⟨gp, 3, none⟩ = some (.int .i64 9) := cell_block _ _ _ _ _ _ hS1.p
  have q1 : W1.cell? ⟨gp, 3 + 1, none⟩ = some (.int .i64 0) := cell_block _ _ _ _ _ _ hS1.p
  have q2 : W1.cell? ⟨gp, 3 + 2, none⟩ = some (.int .i64 1) := cell_block _ _ _ _ _ _ hS1.p
  have q1' : W1.cell? ⟨gp, 4, none⟩ = some (.int .i64 0) := q1
  have q2' : W1.cell? ⟨gp, 5, none⟩ = some (.int .i64 1) := q2
  have a0 : w.cell? ⟨gw, 0, none⟩ = some (.slice (some ⟨gp, 0, none⟩) 5 5) := cell_block _ _ 0 _ _ _ hw
  have a1 : w.cell? ⟨gw, 1, none⟩ = some (.int .i64 1) := cell_block _ _ 1 _ _ _ hw
  have af := frozen_block _ _ 1 _ _ hw
  have b0 : W1.cell? ⟨gw, 0, none⟩ = some (.slice (some ⟨gp, 0, none⟩) 5 5) := cell_block _ _ 0 _ _ _ hw1
  obtain ⟨x0, x1, x2, _⟩ := look3 hx2
  have HX2 := hid_of hx2
  have HW2 := hid_of hw2
  have HT2 := hid_of hT2
  have HS2 := hid_of hS2
  have HQ2 := hid_of hq2
  have HK2 := hid_of hk02
  clear hk1 hw1 hT1 hS1 hq1 hk2 hx2 hw2 hT2 hS2 hq2 hk02 hT hS hw
  go_enter Tryd.func33, Tryd.ntmps33
  go_upto_region 2 with fail
  rw [← hW1]
  clear hW1 a0 a1 af
  go_upto_region 3 with fail
  rw [← hW2, ← hgx]
  clear hW2 hgx q0 q1 q2 q1' q2' b0
  go_wp2_with fail
  clear x0 x1 x2
  go_loopw [27] (fun iv wr => ((iv = .int .i64 0 ∧ Hid (T wr l) ∧ Hid (wr.heap[gw]? = some (.cells #[.slice (some ⟨gp, 0, none⟩) 5 5, .int .i64 2, ev, .slice none 0 0, ov] 98 (0, 0)))) ∨ (iv = .int .i64 1 ∧ Hid (T wr (l ++ [(3, 3, 1), (4, 3, 2), (2, 20, 0)])) ∧ Hid (wr.heap[gw]? = some (.cells #[.slice (some ⟨gp, 0, none⟩) 5 5, .int .i64 5, ev, .slice none 0 0, ov] 98 (0, 0))))) ∧ Hid (wr.heap[gx]? = some (.cells #[.int .i64 9, .int .i64 0, .int .i64 1] 88 (0, 0))) ∧ Hid (SumU wr gf gp) ∧ Hid (Kept (fun q => base ≤ q) w wr) ∧ Hid (Keep88 w wr)) (fun iv _ => 1 - (intOf iv).toNat)
  case atStart => exact ⟨.inl ⟨rfl, HT2, HW2⟩, HX2, HS2, HK2, HQ2⟩
  case round =>
    clear HX2 HW2 HT2 HS2 HQ2 HK2
    obtain ⟨hcase, HX, HS, HK, HQ⟩ := hrel
    rcases hcase with ⟨rfl, HT, HW⟩ | ⟨rfl, HT, HW⟩
    · have HP := hid_of (wpart_2 hO gw gf gp ev l wr (by omega) HT.out HS.out hgf hgp HW.out hgb)
      go_wp2_with fail
      refine HP.out.mono ?_
      rintro e w5 ⟨rfl, ht5, hw5, hk5, hq5⟩
      have HT5 : Hid (T w5 (l ++ [(3, 3, 1), (4, 3, 2), (2, 20, 0)])) := by have h9 := ht5; (try simp only [List.append_assoc, List.cons_append, List.nil_append] at h9); exact h9
      have HW5 := hid_of hw5
      have HX5 := hid_of (hq5 _ _ HX.out)
      have HS5 := hid_of (HS.out.kept hk5 (by omega) (by omega))
      have HK5 := hid_of (HK.out.trans hk5)
      have HQ5 := hid_of (HQ.out.trans hq5)
      clear ht5 hw5 hk5 hq5 HP HT HW HX HS HK HQ
      go_wp2
      go_roundw
      case rel => exact ⟨.inr (⟨rfl, HT5, HW5⟩), HX5, HS5, HK5, HQ5⟩
      case measure => simp [intOf]
    · have HP := hid_of (behind_9 hO gw gp 5 1 ev (l ++ [(3, 3, 1), (4, 3, 2), (2, 20, 0)]) wr (by simp; omega) HT.out HW.out (by have h9 := (Array.getElem?_eq_some_iff.1 HW.out).1; omega))
      obtain ⟨x0, x1, x2, _⟩ := look3 HX.out
      go_wp2_with fail
      refine HP.out.mono ?_
      rintro e w5 ⟨rfl, ht5, hw5, hk5, hq5⟩
      have HT5 : Hid (T w5 (l ++ [(3, 3, 1), (4, 3, 2), (2, 20, 0), (1, 18, 0)])) := by have h9 := ht5; (try simp only [List.append_assoc, List.cons_append, List.nil_append] at h9); exact h9
      have HW5 := hid_of hw5
      have HK5 := hid_of (HK.out.trans hk5)
      have HQ5 := hid_of (HQ.out.trans hq5)
      clear ht5 hw5 hk5 hq5 HP HT HW HX HS HK HQ x0 x1 x2
      go_wp2
      refine bodyPost_end (results_none (by rfl) _ _ _) rfl ?_
      exact ⟨rfl, HT5.out, HW5.out, HK5.out, HQ5.out⟩
set_option maxHeartbeats 8000000 in
theorem wpart_0 {ov : Value} {base : Nat} {T : World → List Ln → Prop} (hO : ShOk ov base T) (gw gf gp : Nat) (ev : Value) (l : List Ln) (w : World) (hl : l.length ≤ 20) (hT : T w l) (hS : SumU w gf gp) (hgf : gf < base) (hgp : gp < base) (hw : w.heap[gw]? = some (.cells #[.slice (some ⟨gp, 0, none⟩) 5 5, .int .i64 0, ev, .slice none 0 0, ov] 98 (0, 0))) (hgb : base ≤ gw) :
    Calls Tryd.prog 33 #[.pointer (some ⟨gw, 0, none⟩)] w fun e w' => e = .returned (.tuple #[]) ∧ T w' (l ++ [(3, 3, 1), (4, 3, 2), (2, 20, 0), (1, 18, 0)]) ∧ w'.heap[gw]? = some (.cells #[.slice (some ⟨gp, 0, none⟩) 5 5, .int .i64 5, ev, .slice none 0 0, ov] 98 (0, 0)) ∧ Kept (fun q => base ≤ q) w w' ∧ Keep88 w w' := by
  obtain ⟨W1, hW1⟩ : ∃ W, W = w.setCell ⟨gw, 1, none⟩ (.int .i64 1) := ⟨_, rfl⟩
  have hk1 : Kept (fun q => q = gw) w W1 := by rw [hW1]; exact kept_set w gw 1 (.int .i64 1)
  have hw1 : W1.heap[gw]? = some (.cells #[.slice (some ⟨gp, 0, none⟩) 5 5, .int .i64 1, ev, .slice none 0 0, ov] 98 (0, 0)) := by rw [hW1]; exact set_block w gw 1 _ _ _ hw (.int .i64 1)
  have hT1 := hO.kept w W1 l gw _ hT hw hk1
  have hS1 := hS.kept hk1 (by omega) (by omega)
  have hq1 := keep_of hk1 (fun q cs hq e => by subst e; rw [hw] at hq; simp at hq)
  obtain ⟨W2, hW2⟩ : ∃ W, W = W1.alloc (.cells #[.int .i64 1, .int .i64 0, .int .i64 1] 88) := ⟨_, rfl⟩
  obtain ⟨gx, hgx⟩ : ∃ z, z = W1.heap.size := ⟨_, rfl⟩
  have hk2 : Kept (fun _ => False) W1 W2 := by rw [hW2]; exact (Kept.refl _ _).alloc _
  have hx2 : W2.heap[gx]? = some (.cells #[.int .i64 1, .int .i64 0, .int .i64 1] 88 (0, 0)) := by rw [hW2, hgx]; exact heap_alloc_new W1 _
  have hw2 := box_kept hk2 hw1 (fun f => f)
  have hT2 := hO.kept W1 W2 l gw _ hT1 hw1 (hk2.mono (fun _ _ f => f.elim))
  have hS2 := hS1.kept hk2 (fun f => f) (fun f => f)
  have hq2 := hq1.trans (keep_of hk2 (fun _ _ _ f => f))
  have hk02 : Kept (fun q => base ≤ q) w W2 := (hk1.mono (fun q _ e => by rw [e]; exact hgb)).trans (hk2.mono (fun _ _ f => f.elim))
  have q0 : W1.cell? ⟨gp, 0, none⟩ = some (.int .i64 1) := cell_block _ _ _ _ _ _ hS1.p
  have q1 : W1.cell? ⟨gp, 0 + 1, none⟩ = some (.int .i64 0) := cell_block _ _ _ _ _ _ hS1.p
  have q2 : W1.cell? ⟨gp, 0 + 2, none⟩ = some (.int .i64 1) := cell_block _ _ _ _ _ _ hS1.p
  have q1' : W1.cell? ⟨gp, 1, none⟩ = some (.int .i64 0) := q1
  have q2' : W1.cell? ⟨gp, 2, none⟩ = some (.int .i64 1) := q2
  have a0 : w.cell? ⟨gw, 0, none⟩ = some (.slice (some ⟨gp, 0, none⟩) 5 5) := cell_block _ _ 0 _ _ _ hw
  have a1 : w.cell? ⟨gw, 1, none⟩ = some (.int .i64 0) := cell_block _ _ 1 _ _ _ hw
  have af := frozen_block _ _ 1 _ _ hw
  have b0 : W1.cell? ⟨gw, 0, none⟩ = some (.slice (some ⟨gp, 0, none⟩) 5 5) := cell_block _ _ 0 _ _ _ hw1
  obtain ⟨x0, x1, x2, _⟩ := look3 hx2
  have HX2 := hid_of hx2
  have HW2 := hid_of hw2
  have HT2 := hid_of hT2
  have HS2 := hid_of hS2
  have HQ2 := hid_of hq2
  have HK2 := hid_of hk02
  clear hk1 hw1 hT1 hS1 hq1 hk2 hx2 hw2 hT2 hS2 hq2 hk02 hT hS hw
  go_enter Tryd.func33, Tryd.ntmps33
  go_upto_region 2 with fail
  rw [← hW1]
  clear hW1 a0 a1 af
  go_upto_region 3 with fail
  rw [← hW2, ← hgx]
  clear hW2 hgx q0 q1 q2 q1' q2' b0
  go_wp2_with fail
  clear x0 x1 x2
  go_loopw [27] (fun iv wr => ((iv = .int .i64 0 ∧ Hid (T wr l) ∧ Hid (wr.heap[gw]? = some (.cells #[.slice (some ⟨gp, 0, none⟩) 5 5, .int .i64 1, ev, .slice none 0 0, ov] 98 (0, 0)))) ∨ (iv = .int .i64 1 ∧ Hid (T wr (l ++ [(3, 3, 1), (4, 3, 2), (2, 20, 0), (1, 18, 0)])) ∧ Hid (wr.heap[gw]? = some (.cells #[.slice (some ⟨gp, 0, none⟩) 5 5, .int .i64 5, ev, .slice none 0 0, ov] 98 (0, 0))))) ∧ Hid (wr.heap[gx]? = some (.cells #[.int .i64 1, .int .i64 0, .int .i64 1] 88 (0, 0))) ∧ Hid (SumU wr gf gp) ∧ Hid (Kept (fun q => base ≤ q) w wr) ∧ Hid (Keep88 w wr)) (fun iv _ => 1 - (intOf iv).toNat)
  case atStart => exact ⟨.inl ⟨rfl, HT2, HW2⟩, HX2, HS2, HK2, HQ2⟩
  case round =>
    clear HX2 HW2 HT2 HS2 HQ2 HK2
    obtain ⟨hcase, HX, HS, HK, HQ⟩ := hrel
    rcases hcase with ⟨rfl, HT, HW⟩ | ⟨rfl, HT, HW⟩
    · have HP := hid_of (wpart_1 hO gw gf gp ev l wr (by omega) HT.out HS.out hgf hgp HW.out hgb)
      go_wp2_with fail
      refine HP.out.mono ?_
      rintro e w5 ⟨rfl, ht5, hw5, hk5, hq5⟩
      have HT5 : Hid (T w5 (l ++ [(3, 3, 1), (4, 3, 2), (2, 20, 0), (1, 18, 0)])) := by have h9 := ht5; (try simp only [List.append_assoc, List.cons_append, List.nil_append] at h9); exact h9
      have HW5 := hid_of hw5
      have HX5 := hid_of (hq5 _ _ HX.out)
      have HS5 := hid_of (HS.out.kept hk5 (by omega) (by omega))
      have HK5 := hid_of (HK.out.trans hk5)
      have HQ5 := hid_of (HQ.out.trans hq5)
      clear ht5 hw5 hk5 hq5 HP HT HW HX HS HK HQ
      go_wp2
      go_roundw
      case rel => exact ⟨.inr (⟨rfl, HT5, HW5⟩), HX5, HS5, HK5, HQ5⟩
      case measure => simp [intOf]
    · have HP := hid_of (behind_1 hO gw gp 5 0 ev (l ++ [(3, 3, 1), (4, 3, 2), (2, 20, 0), (1, 18, 0)]) wr (by simp; omega) HT.out HW.out (by have h9 := (Array.getElem?_eq_some_iff.1 HW.out).1; omega))
      obtain ⟨x0, x1, x2, _⟩ := look3 HX.out
      go_wp2_with fail
      refine HP.out.mono ?_
      rintro e w5 ⟨rfl, ht5, hw5, hk5, hq5⟩
      have HT5 : Hid (T w5 (l ++ [(3, 3, 1), (4, 3, 2), (2, 20, 0), (1, 18, 0)])) := by have h9 := ht5; (try simp only [List.append_assoc, List.cons_append, List.nil_append] at h9); exact h9
      have HW5 := hid_of hw5
      have HK5 := hid_of (HK.out.trans hk5)
      have HQ5 := hid_of (HQ.out.trans hq5)
      clear ht5 hw5 hk5 hq5 HP HT HW HX HS HK HQ x0 x1 x2
      go_wp2
      refine bodyPost_end (results_none (by rfl) _ _ _) rfl ?_
      exact ⟨rfl, HT5.out, HW5.out, HK5.out, HQ5.out⟩
def outL : List Ln := [(3, 3, 1), (4, 3, 2), (2, 20, 0), (1, 18, 0), (0, 3, 0), (0, 18, 0)]
set_option maxHeartbeats 4000000 in
theorem write_any (ty gs : Nat) {base : Nat} {T : World → List Ln → Prop} (hO : ShOk (.iface ty (.pointer (some ⟨gs, 0, none⟩))) base T) (gf gp : Nat) (ea : Option Addr) (en ec : Nat) (w : World) (hT : T w []) (hTk : ∀ w', Kept (fun _ => False) w w' → T w' []) (hS : SumU w gf gp) (hgf : gf < base) (hgp : gp < base) (hb : base ≤ w.heap.size) :
    Calls Tryd.prog 26 #[.slice (some ⟨gp, 0, none⟩) 5 5, .slice ea en ec, .iface ty (.pointer (some ⟨gs, 0, none⟩))] w fun e w' => e = .returned (.tuple #[]) ∧ T w' outL ∧ Kept (fun q => base ≤ q) w w' ∧ Keep88 w w' := by
  obtain ⟨W, hW⟩ : ∃ W, W = w.alloc (.cells #[.slice (some ⟨gp, 0, none⟩) 5 5, .int .i64 0, .slice ea en ec, .slice none 0 0, .iface ty (.pointer (some ⟨gs, 0, none⟩))] 98) := ⟨_, rfl⟩
  obtain ⟨gw, hgw⟩ : ∃ z, z = w.heap.size := ⟨_, rfl⟩
  have hk : Kept (fun _ => False) w W := by rw [hW]; exact (Kept.refl _ _).alloc _
  have hw : W.heap[gw]? = some (.cells #[.slice (some ⟨gp, 0, none⟩) 5 5, .int .i64 0, .slice ea en ec, .slice none 0 0, .iface ty (.pointer (some ⟨gs, 0, none⟩))] 98 (0, 0)) := by rw [hW, hgw]; exact heap_alloc_new w _
  have hgb : base ≤ gw := by omega
  have HP := hid_of (wpart_0 hO gw gf gp (.slice ea en ec) [] W (by simp) (hTk W hk) (hS.kept hk (fun f => f) (fun f => f)) hgf hgp hw hgb)
  have HK := hid_of hk
  clear hk hw hT hTk hS
  go_enter Tryd.func26, Tryd.ntmps26
  go_upto_region 1 with fail
  rw [← hW, ← hgw]
  clear hW hgw
  go_wp2_with fail
  refine HP.out.mono ?_
  rintro e w5 ⟨rfl, ht5, hw5, hk5, hq5⟩
  have HP2 := hid_of (hO.put w5 _ 0 3 0 gw _ _ _ 5 (by simp) ht5 hw5)
  have HK5 : Hid (Kept (fun q => base ≤ q) w w5) := (HK.out.mono (fun _ _ f => f.elim)).trans hk5
  have HQ5 : Hid (Keep88 w w5) := (keep_of HK.out (fun _ _ _ f => f)).trans hq5
  clear ht5 hw5 hk5 hq5 HP HK
  go_wp2_with fail
  refine HP2.out.mono ?_
  rintro e w6 ⟨rfl, ht6, hw6, hk6, hq6⟩
  have HP3 := hid_of (hO.put w6 _ 0 18 0 gw _ _ _ 5 (by simp) ht6 hw6)
  have HK6 := hid_of (HK5.out.trans hk6)
  have HQ6 := hid_of (HQ5.out.trans hq6)
  clear ht6 hw6 hk6 hq6 HP2 HK5 HQ5
  go_wp2_with fail
  refine HP3.out.mono ?_
  rintro e w7 ⟨rfl, ht7, hw7, hk7, hq7⟩
  have HT7 : Hid (T w7 outL) := by have h9 := ht7; (try simp only [List.append_assoc, List.cons_append, List.nil_append] at h9); exact h9
  have HK7 := hid_of (HK6.out.trans hk7)
  have HQ7 := hid_of (HQ6.out.trans hq7)
  clear ht7 hw7 hk7 hq7 HP3 HK6 HQ6
  go_wp2
  refine bodyPost_end (results_none (by rfl) _ _ _) rfl ?_
  exact ⟨rfl, HT7.out, HK7.out, HQ7.out⟩
end Go.Proofs.YtfblffledokjkaaDoor

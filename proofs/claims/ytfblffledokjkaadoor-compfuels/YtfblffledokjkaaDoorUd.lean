/-
  The fixed unit: its parts are looked at.
-/
import Derived.Test.YtfblffledokjkaaDoorUc
namespace Go.Proofs.YtfblffledokjkaaDoor
open Go.RowKit
set_option linter.unusedVariables false
set_option linter.unusedSimpArgs false
set_option maxRecDepth 100000

def partsC : Array Value := #[.int .i64 1, .int .i64 0, .int .i64 1, .int .i64 9, .int .i64 0, .int .i64 1, .int .i64 20, .int .i64 20, .int .i64 2, .int .i64 12, .int .i64 1, .int .i64 0, .int .i64 12, .int .i64 2, .int .i64 0]
structure SumU (w : World) (gf gp : Nat) : Prop where
  f : w.heap[gf]? = some (.cells #[.string ⟨#[109, 97, 105, 110]⟩, .int .i64 0, .slice none 0 0, .slice (some ⟨gp, 0, none⟩) 5 5] 59 (0, 0))
  p : w.heap[gp]? = some (.cells partsC 88 (0, 0))
theorem SumU.kept {S : Nat → Prop} {w w' : World} {gf gp : Nat} (h : SumU w gf gp) (hk : Kept S w w') (h1 : ¬ S gf) (h2 : ¬ S gp) : SumU w' gf gp := ⟨box_kept hk h.f h1, box_kept hk h.p h2⟩
def ckC (gf gp o l : Nat) (m : Int) : Array Value := #[.slice none 0 0, .slice (some ⟨gf, 0, none⟩) 1 1, .int .i64 0, .slice (some ⟨gp, o, none⟩) l l, .int .i64 m]
theorem ck_apart {w : World} {g gf gp o l : Nat} {m : Int} (h : SumU w gf gp) (hc : w.heap[g]? = some (.cells (ckC gf gp o l m) 132 (0, 0))) : gf ≠ g ∧ gp ≠ g := by
  refine ⟨fun e => ?_, fun e => ?_⟩
  · subst e; rw [h.f] at hc; simp at hc
  · subst e; rw [h.p] at hc; simp at hc
theorem look5 {w : World} {g : Nat} {t : TypeId} {a b c d e : Value} (h : w.heap[g]? = some (.cells #[a, b, c, d, e] t (0, 0))) : w.cell? ⟨g, 0, none⟩ = some a ∧ w.cell? ⟨g, 1, none⟩ = some b ∧ w.cell? ⟨g, 2, none⟩ = some c ∧ w.cell? ⟨g, 3, none⟩ = some d ∧ w.cell? ⟨g, 4, none⟩ = some e ∧ w.frozen? ⟨g, 3, none⟩ = false ∧ w.frozen? ⟨g, 4, none⟩ = false :=
  ⟨cell_block _ _ 0 _ _ _ h, cell_block _ _ 1 _ _ _ h, cell_block _ _ 2 _ _ _ h, cell_block _ _ 3 _ _ _ h, cell_block _ _ 4 _ _ _ h, frozen_block _ _ 3 _ _ h, frozen_block _ _ 4 _ _ h⟩
set_option maxHeartbeats 8000000 in
theorem cpart_4 (g gf gp : Nat) (deep : Int) (w : World) (hS : SumU w gf gp) (hC : w.heap[g]? = some (.cells (ckC gf gp 12 1 1) 132 (0, 0))) (hL : Laid w) (h0 : 0 < g) (hd0 : 0 ≤ deep) (hd1 : deep ≤ 64) :
    Calls Tryd.prog 57 #[.pointer (some ⟨g, 0, none⟩), .int .i64 2, .int .i64 deep, .int .i64 0] w fun e w' => e = .returned (.tuple #[.int .i64 1, .int .i64 0]) ∧ w'.heap[g]? = some (.cells (ckC gf gp 12 0 1) 132 (0, 0)) ∧ Kept (fun q => q = g) w w' := by
  obtain ⟨ne1, ne2⟩ := ck_apart hS hC
  have hdb : decide (64 < deep) = false := by simp; omega
  obtain ⟨W1, hW1⟩ : ∃ W, W = w.alloc (.cells #[.int .i64 12, .int .i64 2, .int .i64 0] 88) := ⟨_, rfl⟩
  obtain ⟨gx, hgx⟩ : ∃ z, z = w.heap.size := ⟨_, rfl⟩
  have hk1 : Kept (fun _ => False) w W1 := by rw [hW1]; exact (Kept.refl _ _).alloc _
  have hx1 : W1.heap[gx]? = some (.cells #[.int .i64 12, .int .i64 2, .int .i64 0] 88 (0, 0)) := by rw [hW1, hgx]; exact heap_alloc_new w _
  have hgl : g < gx := by rw [hgx]; exact (Array.getElem?_eq_some_iff.1 hC).1
  have hC1 := box_kept hk1 hC (fun f => f)
  have hk2 := kept_set W1 g 3 (.slice (some ⟨gp, 12, none⟩) 0 0)
  have hC2 := set_block W1 g 3 _ _ _ hC1 (.slice (some ⟨gp, 12, none⟩) 0 0)
  have hx2 := box_kept hk2 hx1 (by omega)
  have hS2 := (hS.kept hk1 (fun f => f) (fun f => f)).kept hk2 (fun e => ne1 e) (fun e => ne2 e)
  have hL2 := (hL.kept hk1 (fun f => f)).kept hk2 (fun e => by omega)
  have hkk : Kept (fun q => q = g) w (W1.setCell ⟨g, 3, none⟩ (.slice (some ⟨gp, 12, none⟩) 0 0)) := (hk1.mono (fun _ _ f => f.elim)).trans hk2
  have q0 : w.cell? ⟨gp, 12, none⟩ = some (.int .i64 12) := cell_block _ _ _ _ _ _ hS.p
  have q1 : w.cell? ⟨gp, 12 + 1, none⟩ = some (.int .i64 2) := cell_block _ _ _ _ _ _ hS.p
  have q2 : w.cell? ⟨gp, 12 + 2, none⟩ = some (.int .i64 0) := cell_block _ _ _ _ _ _ hS.p
  have q1' : w.cell? ⟨gp, 13, none⟩ = some (.int .i64 2) := q1
  have q2' : w.cell? ⟨gp, 14, none⟩ = some (.int .i64 0) := q2
  obtain ⟨c0, c1, c2, c3, c4, f3, f4⟩ := look5 hC
  obtain ⟨d0, d1, d2, d3, d4, g3, g4⟩ := look5 hC1
  have H0 := hid_of (stands_12 w)
  have HX2 := hid_of hx2
  have HS2 := hid_of hS2
  have HC2 := hid_of hC2
  have HL2 := hid_of hL2
  have HKK := hid_of hkk
  clear hk1 hx1 hC hS hL hC1 hk2 hC2 hx2 hS2 hL2 hkk
  go_enter Tryd.func57, Tryd.ntmps57
  go_wp2_with fail
  refine H0.out.mono ?_
  rintro e w9 ⟨rfl, hw⟩
  have hw' := hw.symm
  clear hw
  subst hw'
  go_upto_region 4 with fail
  rw [← hW1, ← hgx]
  clear hW1 hgx H0 q0 q1 q2 q1' q2' c0 c1 c2 c3 c4 f3 f4
  go_upto_region 5 with fail
  clear d0 d1 d2 d3 d4 g3 g4
  generalize W1.setCell ⟨g, 3, none⟩ (.slice (some ⟨gp, 12, none⟩) 0 0) = W2 at *
  obtain ⟨x0, x1, x2, _⟩ := look3 HX2.out
  have HN := hid_of (number_12 (.pointer (some ⟨g, 0, none⟩)) 2 0 W2 HL2.out)
  go_wp2_with fail
  refine HN.out.mono ?_
  rintro e W3 ⟨rfl, hk3⟩
  clear HN x0 x1 x2
  have HX3 := hid_of (box_kept hk3 HX2.out (fun f => f))
  have HK3 := hid_of hk3
  clear hk3
  obtain ⟨x0, x1, x2, _⟩ := look3 HX3.out
  have HN := hid_of (kids_12 (.pointer (some ⟨g, 0, none⟩)) 2 W3)
  go_wp2_with fail
  refine HN.out.mono ?_
  rintro e W4 ⟨rfl, hk4⟩
  clear HN x0 x1 x2
  have HX4 := hid_of (box_kept hk4 HX3.out (fun f => f))
  have HC4 := hid_of (box_kept (HK3.out.trans hk4) HC2.out (fun f => f))
  have HS4 := hid_of (HS2.out.kept (HK3.out.trans hk4) (fun f => f) (fun f => f))
  have HL4 := hid_of (HL2.out.kept (HK3.out.trans hk4) (fun f => f))
  have HK4 : Hid (Kept (fun q => q = g) w W4) := HKK.out.step (HK3.out.trans hk4) (fun _ _ f => f.elim)
  clear hk4 HX2 HX3 HK3 HS2 HC2 HL2 HKK
  obtain ⟨x0, x1, x2, _⟩ := look3 HX4.out
  have HN := hid_of (least_12 W4)
  go_wp2_with fail
  refine HN.out.mono ?_
  rintro e w9 ⟨rfl, hw⟩
  have hw' := hw.symm
  clear hw HN
  subst hw'
  go_upto_region 14 with fail
  go_wp2_with fail
  clear x0 x1 x2
  go_loopw [13, 70] (fun mv iv wr => ((iv = .int .i64 0 ∧ mv = .int .i64 1 ∧ Hid (wr.heap[g]? = some (.cells (ckC gf gp 12 0 1) 132 (0, 0))))) ∧ Hid (wr.heap[gx]? = some (.cells #[.int .i64 12, .int .i64 2, .int .i64 0] 88 (0, 0))) ∧ Hid (SumU wr gf gp) ∧ Hid (Laid wr) ∧ Hid (Kept (fun q => q = g) w wr)) (fun _ iv _ => 0 - (intOf iv).toNat)
  case atStart => exact ⟨⟨rfl, rfl, HC4⟩, HX4, HS4, HL4, HK4⟩
  case round =>
    clear HC4 HX4 HS4 HL4 HK4
    obtain ⟨hcase, HX, HS, HL, HK⟩ := hrel
    obtain ⟨x0, x1, x2, _⟩ := look3 HX.out
    rcases hcase with ⟨rfl, rfl, HC⟩
    · obtain ⟨c0, c1, c2, c3, c4, f3, f4⟩ := look5 HC.out
      have hk9 := kept_set wr g 4 (.int .i64 1)
      have hC9 := set_block wr g 4 _ _ _ HC.out (.int .i64 1)
      have HC9 := hid_of hC9
      have HK9 := hid_of (HK.out.trans hk9)
      clear hk9 hC9
      go_wp2
      go_ret2
      exact ⟨rfl, HC9.out, HK9.out⟩
set_option maxHeartbeats 8000000 in
theorem cpart_3 (g gf gp : Nat) (deep : Int) (w : World) (hS : SumU w gf gp) (hC : w.heap[g]? = some (.cells (ckC gf gp 9 2 0) 132 (0, 0))) (hL : Laid w) (h0 : 0 < g) (hd0 : 0 ≤ deep) (hd1 : deep ≤ 63) :
    Calls Tryd.prog 57 #[.pointer (some ⟨g, 0, none⟩), .int .i64 2, .int .i64 deep, .int .i64 0] w fun e w' => e = .returned (.tuple #[.int .i64 1, .int .i64 0]) ∧ w'.heap[g]? = some (.cells (ckC gf gp 12 1 1) 132 (0, 0)) ∧ Kept (fun q => q = g) w w' := by
  obtain ⟨ne1, ne2⟩ := ck_apart hS hC
  have hdb : decide (64 < deep) = false := by simp; omega
  obtain ⟨W1, hW1⟩ : ∃ W, W = w.alloc (.cells #[.int .i64 12, .int .i64 1, .int .i64 0] 88) := ⟨_, rfl⟩
  obtain ⟨gx, hgx⟩ : ∃ z, z = w.heap.size := ⟨_, rfl⟩
  have hk1 : Kept (fun _ => False) w W1 := by rw [hW1]; exact (Kept.refl _ _).alloc _
  have hx1 : W1.heap[gx]? = some (.cells #[.int .i64 12, .int .i64 1, .int .i64 0] 88 (0, 0)) := by rw [hW1, hgx]; exact heap_alloc_new w _
  have hgl : g < gx := by rw [hgx]; exact (Array.getElem?_eq_some_iff.1 hC).1
  have hC1 := box_kept hk1 hC (fun f => f)
  have hk2 := kept_set W1 g 3 (.slice (some ⟨gp, 12, none⟩) 1 1)
  have hC2 := set_block W1 g 3 _ _ _ hC1 (.slice (some ⟨gp, 12, none⟩) 1 1)
  have hx2 := box_kept hk2 hx1 (by omega)
  have hS2 := (hS.kept hk1 (fun f => f) (fun f => f)).kept hk2 (fun e => ne1 e) (fun e => ne2 e)
  have hL2 := (hL.kept hk1 (fun f => f)).kept hk2 (fun e => by omega)
  have hkk : Kept (fun q => q = g) w (W1.setCell ⟨g, 3, none⟩ (.slice (some ⟨gp, 12, none⟩) 1 1)) := (hk1.mono (fun _ _ f => f.elim)).trans hk2
  have q0 : w.cell? ⟨gp, 9, none⟩ = some (.int .i64 12) := cell_block _ _ _ _ _ _ hS.p
  have q1 : w.cell? ⟨gp, 9 + 1, none⟩ = some (.int .i64 1) := cell_block _ _ _ _ _ _ hS.p
  have q2 : w.cell? ⟨gp, 9 + 2, none⟩ = some (.int .i64 0) := cell_block _ _ _ _ _ _ hS.p
  have q1' : w.cell? ⟨gp, 10, none⟩ = some (.int .i64 1) := q1
  have q2' : w.cell? ⟨gp, 11, none⟩ = some (.int .i64 0) := q2
  obtain ⟨c0, c1, c2, c3, c4, f3, f4⟩ := look5 hC
  obtain ⟨d0, d1, d2, d3, d4, g3, g4⟩ := look5 hC1
  have H0 := hid_of (stands_12 w)
  have HX2 := hid_of hx2
  have HS2 := hid_of hS2
  have HC2 := hid_of hC2
  have HL2 := hid_of hL2
  have HKK := hid_of hkk
  clear hk1 hx1 hC hS hL hC1 hk2 hC2 hx2 hS2 hL2 hkk
  go_enter Tryd.func57, Tryd.ntmps57
  go_wp2_with fail
  refine H0.out.mono ?_
  rintro e w9 ⟨rfl, hw⟩
  have hw' := hw.symm
  clear hw
  subst hw'
  go_upto_region 4 with fail
  rw [← hW1, ← hgx]
  clear hW1 hgx H0 q0 q1 q2 q1' q2' c0 c1 c2 c3 c4 f3 f4
  go_upto_region 5 with fail
  clear d0 d1 d2 d3 d4 g3 g4
  generalize W1.setCell ⟨g, 3, none⟩ (.slice (some ⟨gp, 12, none⟩) 1 1) = W2 at *
  obtain ⟨x0, x1, x2, _⟩ := look3 HX2.out
  have HN := hid_of (number_12 (.pointer (some ⟨g, 0, none⟩)) 1 0 W2 HL2.out)
  go_wp2_with fail
  refine HN.out.mono ?_
  rintro e W3 ⟨rfl, hk3⟩
  clear HN x0 x1 x2
  have HX3 := hid_of (box_kept hk3 HX2.out (fun f => f))
  have HK3 := hid_of hk3
  clear hk3
  obtain ⟨x0, x1, x2, _⟩ := look3 HX3.out
  have HN := hid_of (kids_12 (.pointer (some ⟨g, 0, none⟩)) 1 W3)
  go_wp2_with fail
  refine HN.out.mono ?_
  rintro e W4 ⟨rfl, hk4⟩
  clear HN x0 x1 x2
  have HX4 := hid_of (box_kept hk4 HX3.out (fun f => f))
  have HC4 := hid_of (box_kept (HK3.out.trans hk4) HC2.out (fun f => f))
  have HS4 := hid_of (HS2.out.kept (HK3.out.trans hk4) (fun f => f) (fun f => f))
  have HL4 := hid_of (HL2.out.kept (HK3.out.trans hk4) (fun f => f))
  have HK4 : Hid (Kept (fun q => q = g) w W4) := HKK.out.step (HK3.out.trans hk4) (fun _ _ f => f.elim)
  clear hk4 HX2 HX3 HK3 HS2 HC2 HL2 HKK
  obtain ⟨x0, x1, x2, _⟩ := look3 HX4.out
  have HN := hid_of (least_12 W4)
  go_wp2_with fail
  refine HN.out.mono ?_
  rintro e w9 ⟨rfl, hw⟩
  have hw' := hw.symm
  clear hw HN
  subst hw'
  go_upto_region 14 with fail
  go_wp2_with fail
  clear x0 x1 x2
  go_loopw [13, 70] (fun mv iv wr => ((iv = .int .i64 0 ∧ mv = .int .i64 1 ∧ Hid (wr.heap[g]? = some (.cells (ckC gf gp 12 1 0) 132 (0, 0))))) ∧ Hid (wr.heap[gx]? = some (.cells #[.int .i64 12, .int .i64 1, .int .i64 0] 88 (0, 0))) ∧ Hid (SumU wr gf gp) ∧ Hid (Laid wr) ∧ Hid (Kept (fun q => q = g) w wr)) (fun _ iv _ => 0 - (intOf iv).toNat)
  case atStart => exact ⟨⟨rfl, rfl, HC4⟩, HX4, HS4, HL4, HK4⟩
  case round =>
    clear HC4 HX4 HS4 HL4 HK4
    obtain ⟨hcase, HX, HS, HL, HK⟩ := hrel
    obtain ⟨x0, x1, x2, _⟩ := look3 HX.out
    rcases hcase with ⟨rfl, rfl, HC⟩
    · obtain ⟨c0, c1, c2, c3, c4, f3, f4⟩ := look5 HC.out
      have hk9 := kept_set wr g 4 (.int .i64 1)
      have hC9 := set_block wr g 4 _ _ _ HC.out (.int .i64 1)
      have HC9 := hid_of hC9
      have HK9 := hid_of (HK.out.trans hk9)
      clear hk9 hC9
      go_wp2
      go_ret2
      exact ⟨rfl, HC9.out, HK9.out⟩
set_option maxHeartbeats 8000000 in
theorem cpart_2 (g gf gp : Nat) (deep : Int) (w : World) (hS : SumU w gf gp) (hC : w.heap[g]? = some (.cells (ckC gf gp 6 3 0) 132 (0, 0))) (hL : Laid w) (h0 : 0 < g) (hd0 : 0 ≤ deep) (hd1 : deep ≤ 62) :
    Calls Tryd.prog 57 #[.pointer (some ⟨g, 0, none⟩), .int .i64 2, .int .i64 deep, .int .i64 0] w fun e w' => e = .returned (.tuple #[.int .i64 2, .int .i64 0]) ∧ w'.heap[g]? = some (.cells (ckC gf gp 12 0 2) 132 (0, 0)) ∧ Kept (fun q => q = g) w w' := by
  obtain ⟨ne1, ne2⟩ := ck_apart hS hC
  have hdb : decide (64 < deep) = false := by simp; omega
  obtain ⟨W1, hW1⟩ : ∃ W, W = w.alloc (.cells #[.int .i64 20, .int .i64 20, .int .i64 2] 88) := ⟨_, rfl⟩
  obtain ⟨gx, hgx⟩ : ∃ z, z = w.heap.size := ⟨_, rfl⟩
  have hk1 : Kept (fun _ => False) w W1 := by rw [hW1]; exact (Kept.refl _ _).alloc _
  have hx1 : W1.heap[gx]? = some (.cells #[.int .i64 20, .int .i64 20, .int .i64 2] 88 (0, 0)) := by rw [hW1, hgx]; exact heap_alloc_new w _
  have hgl : g < gx := by rw [hgx]; exact (Array.getElem?_eq_some_iff.1 hC).1
  have hC1 := box_kept hk1 hC (fun f => f)
  have hk2 := kept_set W1 g 3 (.slice (some ⟨gp, 9, none⟩) 2 2)
  have hC2 := set_block W1 g 3 _ _ _ hC1 (.slice (some ⟨gp, 9, none⟩) 2 2)
  have hx2 := box_kept hk2 hx1 (by omega)
  have hS2 := (hS.kept hk1 (fun f => f) (fun f => f)).kept hk2 (fun e => ne1 e) (fun e => ne2 e)
  have hL2 := (hL.kept hk1 (fun f => f)).kept hk2 (fun e => by omega)
  have hkk : Kept (fun q => q = g) w (W1.setCell ⟨g, 3, none⟩ (.slice (some ⟨gp, 9, none⟩) 2 2)) := (hk1.mono (fun _ _ f => f.elim)).trans hk2
  have q0 : w.cell? ⟨gp, 6, none⟩ = some (.int .i64 20) := cell_block _ _ _ _ _ _ hS.p
  have q1 : w.cell? ⟨gp, 6 + 1, none⟩ = some (.int .i64 20) := cell_block _ _ _ _ _ _ hS.p
  have q2 : w.cell? ⟨gp, 6 + 2, none⟩ = some (.int .i64 2) := cell_block _ _ _ _ _ _ hS.p
  have q1' : w.cell? ⟨gp, 7, none⟩ = some (.int .i64 20) := q1
  have q2' : w.cell? ⟨gp, 8, none⟩ = some (.int .i64 2) := q2
  obtain ⟨c0, c1, c2, c3, c4, f3, f4⟩ := look5 hC
  obtain ⟨d0, d1, d2, d3, d4, g3, g4⟩ := look5 hC1
  have H0 := hid_of (stands_20 w)
  have HX2 := hid_of hx2
  have HS2 := hid_of hS2
  have HC2 := hid_of hC2
  have HL2 := hid_of hL2
  have HKK := hid_of hkk
  clear hk1 hx1 hC hS hL hC1 hk2 hC2 hx2 hS2 hL2 hkk
  go_enter Tryd.func57, Tryd.ntmps57
  go_wp2_with fail
  refine H0.out.mono ?_
  rintro e w9 ⟨rfl, hw⟩
  have hw' := hw.symm
  clear hw
  subst hw'
  go_upto_region 4 with fail
  rw [← hW1, ← hgx]
  clear hW1 hgx H0 q0 q1 q2 q1' q2' c0 c1 c2 c3 c4 f3 f4
  go_upto_region 5 with fail
  clear d0 d1 d2 d3 d4 g3 g4
  generalize W1.setCell ⟨g, 3, none⟩ (.slice (some ⟨gp, 9, none⟩) 2 2) = W2 at *
  obtain ⟨x0, x1, x2, _⟩ := look3 HX2.out
  have HN := hid_of (number_20 (.pointer (some ⟨g, 0, none⟩)) W2 HL2.out)
  go_wp2_with fail
  refine HN.out.mono ?_
  rintro e W3 ⟨rfl, hk3⟩
  clear HN x0 x1 x2
  have HX3 := hid_of (box_kept hk3 HX2.out (fun f => f))
  have HK3 := hid_of hk3
  clear hk3
  obtain ⟨x0, x1, x2, _⟩ := look3 HX3.out
  have HN := hid_of (kids_20 (.pointer (some ⟨g, 0, none⟩)) W3)
  go_wp2_with fail
  refine HN.out.mono ?_
  rintro e W4 ⟨rfl, hk4⟩
  clear HN x0 x1 x2
  have HX4 := hid_of (box_kept hk4 HX3.out (fun f => f))
  have HC4 := hid_of (box_kept (HK3.out.trans hk4) HC2.out (fun f => f))
  have HS4 := hid_of (HS2.out.kept (HK3.out.trans hk4) (fun f => f) (fun f => f))
  have HL4 := hid_of (HL2.out.kept (HK3.out.trans hk4) (fun f => f))
  have HK4 : Hid (Kept (fun q => q = g) w W4) := HKK.out.step (HK3.out.trans hk4) (fun _ _ f => f.elim)
  clear hk4 HX2 HX3 HK3 HS2 HC2 HL2 HKK
  obtain ⟨x0, x1, x2, _⟩ := look3 HX4.out
  have HN := hid_of (least_20 W4)
  go_wp2_with fail
  refine HN.out.mono ?_
  rintro e w9 ⟨rfl, hw⟩
  have hw' := hw.symm
  clear hw HN
  subst hw'
  go_upto_region 14 with fail
  go_wp2_with fail
  clear x0 x1 x2
  go_loopw [13, 70] (fun mv iv wr => ((iv = .int .i64 0 ∧ mv = .int .i64 0 ∧ Hid (wr.heap[g]? = some (.cells (ckC gf gp 9 2 0) 132 (0, 0)))) ∨ (iv = .int .i64 1 ∧ mv = .int .i64 1 ∧ Hid (wr.heap[g]? = some (.cells (ckC gf gp 12 1 1) 132 (0, 0)))) ∨ (iv = .int .i64 2 ∧ mv = .int .i64 2 ∧ Hid (wr.heap[g]? = some (.cells (ckC gf gp 12 0 1) 132 (0, 0))))) ∧ Hid (wr.heap[gx]? = some (.cells #[.int .i64 20, .int .i64 20, .int .i64 2] 88 (0, 0))) ∧ Hid (SumU wr gf gp) ∧ Hid (Laid wr) ∧ Hid (Kept (fun q => q = g) w wr)) (fun _ iv _ => 2 - (intOf iv).toNat)
  case atStart => exact ⟨.inl ⟨rfl, rfl, HC4⟩, HX4, HS4, HL4, HK4⟩
  case round =>
    clear HC4 HX4 HS4 HL4 HK4
    obtain ⟨hcase, HX, HS, HL, HK⟩ := hrel
    obtain ⟨x0, x1, x2, _⟩ := look3 HX.out
    rcases hcase with ⟨rfl, rfl, HC⟩ | ⟨rfl, rfl, HC⟩ | ⟨rfl, rfl, HC⟩
    · have HP := hid_of (place_20_0 wr)
      go_wp2_with fail
      refine HP.out.mono ?_
      rintro e w9 ⟨rfl, hw⟩
      have hw' := hw.symm
      clear hw HP
      subst hw'
      have HQ := hid_of (cpart_3 g gf gp (deep + 1) wr HS.out HC.out HL.out h0 (by omega) (by omega))
      have hw1 : IntKind.i64.wrap (deep + 1) = deep + 1 := by simp [IntKind.wrap, IntKind.bits, IntKind.signed]; omega
      go_wp2_with fail
      refine HQ.out.mono ?_
      rintro e w5 ⟨rfl, hc5, hk5⟩
      clear HQ hw1 x0 x1 x2
      have HC9 := hid_of hc5
      have HX9 := hid_of (box_kept hk5 HX.out (by omega))
      have HS9 := hid_of (HS.out.kept hk5 (fun e => ne1 e) (fun e => ne2 e))
      have HL9 := hid_of (HL.out.kept hk5 (by omega))
      have HK9 := hid_of (HK.out.trans hk5)
      clear hc5 hk5 HX HS HL HK HC
      obtain ⟨x0, x1, x2, _⟩ := look3 HX9.out
      have HW := hid_of (wanted_20_0 w5)
      go_wp2_with fail
      refine HW.out.mono ?_
      rintro e w9 ⟨rfl, hw⟩
      have hw' := hw.symm
      clear hw HW
      subst hw'
      go_wp2
      go_roundw
      case rel => exact ⟨.inr (.inl ⟨rfl, rfl, HC9⟩), HX9, HS9, HL9, HK9⟩
      case measure => simp [intOf]
    · have HP := hid_of (place_20_1 wr)
      go_wp2_with fail
      refine HP.out.mono ?_
      rintro e w9 ⟨rfl, hw⟩
      have hw' := hw.symm
      clear hw HP
      subst hw'
      have HQ := hid_of (cpart_4 g gf gp (deep + 1) wr HS.out HC.out HL.out h0 (by omega) (by omega))
      have hw1 : IntKind.i64.wrap (deep + 1) = deep + 1 := by simp [IntKind.wrap, IntKind.bits, IntKind.signed]; omega
      go_wp2_with fail
      refine HQ.out.mono ?_
      rintro e w5 ⟨rfl, hc5, hk5⟩
      clear HQ hw1 x0 x1 x2
      have HC9 := hid_of hc5
      have HX9 := hid_of (box_kept hk5 HX.out (by omega))
      have HS9 := hid_of (HS.out.kept hk5 (fun e => ne1 e) (fun e => ne2 e))
      have HL9 := hid_of (HL.out.kept hk5 (by omega))
      have HK9 := hid_of (HK.out.trans hk5)
      clear hc5 hk5 HX HS HL HK HC
      obtain ⟨x0, x1, x2, _⟩ := look3 HX9.out
      have HW := hid_of (wanted_20_1 w5)
      go_wp2_with fail
      refine HW.out.mono ?_
      rintro e w9 ⟨rfl, hw⟩
      have hw' := hw.symm
      clear hw HW
      subst hw'
      go_wp2
      go_roundw
      case rel => exact ⟨.inr (.inr (⟨rfl, rfl, HC9⟩)), HX9, HS9, HL9, HK9⟩
      case measure => simp [intOf]
    · obtain ⟨c0, c1, c2, c3, c4, f3, f4⟩ := look5 HC.out
      have hk9 := kept_set wr g 4 (.int .i64 2)
      have hC9 := set_block wr g 4 _ _ _ HC.out (.int .i64 2)
      have HC9 := hid_of hC9
      have HK9 := hid_of (HK.out.trans hk9)
      clear hk9 hC9
      go_wp2
      go_ret2
      exact ⟨rfl, HC9.out, HK9.out⟩
set_option maxHeartbeats 8000000 in
theorem cpart_1 (g gf gp : Nat) (deep : Int) (w : World) (hS : SumU w gf gp) (hC : w.heap[g]? = some (.cells (ckC gf gp 3 4 0) 132 (0, 0))) (hL : Laid w) (h0 : 0 < g) (hd0 : 0 ≤ deep) (hd1 : deep ≤ 61) :
    Calls Tryd.prog 57 #[.pointer (some ⟨g, 0, none⟩), .int .i64 1, .int .i64 deep, .int .i64 0] w fun e w' => e = .returned (.tuple #[.int .i64 2, .int .i64 0]) ∧ w'.heap[g]? = some (.cells (ckC gf gp 12 0 2) 132 (0, 0)) ∧ Kept (fun q => q = g) w w' := by
  obtain ⟨ne1, ne2⟩ := ck_apart hS hC
  have hdb : decide (64 < deep) = false := by simp; omega
  obtain ⟨W1, hW1⟩ : ∃ W, W = w.alloc (.cells #[.int .i64 9, .int .i64 0, .int .i64 1] 88) := ⟨_, rfl⟩
  obtain ⟨gx, hgx⟩ : ∃ z, z = w.heap.size := ⟨_, rfl⟩
  have hk1 : Kept (fun _ => False) w W1 := by rw [hW1]; exact (Kept.refl _ _).alloc _
  have hx1 : W1.heap[gx]? = some (.cells #[.int .i64 9, .int .i64 0, .int .i64 1] 88 (0, 0)) := by rw [hW1, hgx]; exact heap_alloc_new w _
  have hgl : g < gx := by rw [hgx]; exact (Array.getElem?_eq_some_iff.1 hC).1
  have hC1 := box_kept hk1 hC (fun f => f)
  have hk2 := kept_set W1 g 3 (.slice (some ⟨gp, 6, none⟩) 3 3)
  have hC2 := set_block W1 g 3 _ _ _ hC1 (.slice (some ⟨gp, 6, none⟩) 3 3)
  have hx2 := box_kept hk2 hx1 (by omega)
  have hS2 := (hS.kept hk1 (fun f => f) (fun f => f)).kept hk2 (fun e => ne1 e) (fun e => ne2 e)
  have hL2 := (hL.kept hk1 (fun f => f)).kept hk2 (fun e => by omega)
  have hkk : Kept (fun q => q = g) w (W1.setCell ⟨g, 3, none⟩ (.slice (some ⟨gp, 6, none⟩) 3 3)) := (hk1.mono (fun _ _ f => f.elim)).trans hk2
  have q0 : w.cell? ⟨gp, 3, none⟩ = some (.int .i64 9) := cell_block _ _ _ _ _ _ hS.p
  have q1 : w.cell? ⟨gp, 3 + 1, none⟩ = some (.int .i64 0) := cell_block _ _ _ _ _ _ hS.p
  have q2 : w.cell? ⟨gp, 3 + 2, none⟩ = some (.int .i64 1) := cell_block _ _ _ _ _ _ hS.p
  have q1' : w.cell? ⟨gp, 4, none⟩ = some (.int .i64 0) := q1
  have q2' : w.cell? ⟨gp, 5, none⟩ = some (.int .i64 1) := q2
  obtain ⟨c0, c1, c2, c3, c4, f3, f4⟩ := look5 hC
  obtain ⟨d0, d1, d2, d3, d4, g3, g4⟩ := look5 hC1
  have H0 := hid_of (stands_9 w)
  have HX2 := hid_of hx2
  have HS2 := hid_of hS2
  have HC2 := hid_of hC2
  have HL2 := hid_of hL2
  have HKK := hid_of hkk
  clear hk1 hx1 hC hS hL hC1 hk2 hC2 hx2 hS2 hL2 hkk
  go_enter Tryd.func57, Tryd.ntmps57
  go_wp2_with fail
  refine H0.out.mono ?_
  rintro e w9 ⟨rfl, hw⟩
  have hw' := hw.symm
  clear hw
  subst hw'
  go_upto_region 4 with fail
  rw [← hW1, ← hgx]
  clear hW1 hgx H0 q0 q1 q2 q1' q2' c0 c1 c2 c3 c4 f3 f4
  go_upto_region 5 with fail
  clear d0 d1 d2 d3 d4 g3 g4
  generalize W1.setCell ⟨g, 3, none⟩ (.slice (some ⟨gp, 6, none⟩) 3 3) = W2 at *
  obtain ⟨x0, x1, x2, _⟩ := look3 HX2.out
  have HN := hid_of (number_9 (.pointer (some ⟨g, 0, none⟩)) W2 HL2.out)
  go_wp2_with fail
  refine HN.out.mono ?_
  rintro e W3 ⟨rfl, hk3⟩
  clear HN x0 x1 x2
  have HX3 := hid_of (box_kept hk3 HX2.out (fun f => f))
  have HK3 := hid_of hk3
  clear hk3
  obtain ⟨x0, x1, x2, _⟩ := look3 HX3.out
  have HN := hid_of (kids_9 (.pointer (some ⟨g, 0, none⟩)) W3)
  go_wp2_with fail
  refine HN.out.mono ?_
  rintro e W4 ⟨rfl, hk4⟩
  clear HN x0 x1 x2
  have HX4 := hid_of (box_kept hk4 HX3.out (fun f => f))
  have HC4 := hid_of (box_kept (HK3.out.trans hk4) HC2.out (fun f => f))
  have HS4 := hid_of (HS2.out.kept (HK3.out.trans hk4) (fun f => f) (fun f => f))
  have HL4 := hid_of (HL2.out.kept (HK3.out.trans hk4) (fun f => f))
  have HK4 : Hid (Kept (fun q => q = g) w W4) := HKK.out.step (HK3.out.trans hk4) (fun _ _ f => f.elim)
  clear hk4 HX2 HX3 HK3 HS2 HC2 HL2 HKK
  obtain ⟨x0, x1, x2, _⟩ := look3 HX4.out
  have HN := hid_of (least_9 W4)
  go_wp2_with fail
  refine HN.out.mono ?_
  rintro e w9 ⟨rfl, hw⟩
  have hw' := hw.symm
  clear hw HN
  subst hw'
  go_upto_region 14 with fail
  go_wp2_with fail
  clear x0 x1 x2
  go_loopw [13, 70] (fun mv iv wr => ((iv = .int .i64 0 ∧ mv = .int .i64 0 ∧ Hid (wr.heap[g]? = some (.cells (ckC gf gp 6 3 0) 132 (0, 0)))) ∨ (iv = .int .i64 1 ∧ mv = .int .i64 2 ∧ Hid (wr.heap[g]? = some (.cells (ckC gf gp 12 0 2) 132 (0, 0))))) ∧ Hid (wr.heap[gx]? = some (.cells #[.int .i64 9, .int .i64 0, .int .i64 1] 88 (0, 0))) ∧ Hid (SumU wr gf gp) ∧ Hid (Laid wr) ∧ Hid (Kept (fun q => q = g) w wr)) (fun _ iv _ => 1 - (intOf iv).toNat)
  case atStart => exact ⟨.inl ⟨rfl, rfl, HC4⟩, HX4, HS4, HL4, HK4⟩
  case round =>
    clear HC4 HX4 HS4 HL4 HK4
    obtain ⟨hcase, HX, HS, HL, HK⟩ := hrel
    obtain ⟨x0, x1, x2, _⟩ := look3 HX.out
    rcases hcase with ⟨rfl, rfl, HC⟩ | ⟨rfl, rfl, HC⟩
    · have HP := hid_of (place_9_0 wr)
      go_wp2_with fail
      refine HP.out.mono ?_
      rintro e w9 ⟨rfl, hw⟩
      have hw' := hw.symm
      clear hw HP
      subst hw'
      have HQ := hid_of (cpart_2 g gf gp (deep + 1) wr HS.out HC.out HL.out h0 (by omega) (by omega))
      have hw1 : IntKind.i64.wrap (deep + 1) = deep + 1 := by simp [IntKind.wrap, IntKind.bits, IntKind.signed]; omega
      go_wp2_with fail
      refine HQ.out.mono ?_
      rintro e w5 ⟨rfl, hc5, hk5⟩
      clear HQ hw1 x0 x1 x2
      have HC9 := hid_of hc5
      have HX9 := hid_of (box_kept hk5 HX.out (by omega))
      have HS9 := hid_of (HS.out.kept hk5 (fun e => ne1 e) (fun e => ne2 e))
      have HL9 := hid_of (HL.out.kept hk5 (by omega))
      have HK9 := hid_of (HK.out.trans hk5)
      clear hc5 hk5 HX HS HL HK HC
      obtain ⟨x0, x1, x2, _⟩ := look3 HX9.out
      have HW := hid_of (wanted_9_0 w5)
      go_wp2_with fail
      refine HW.out.mono ?_
      rintro e w9 ⟨rfl, hw⟩
      have hw' := hw.symm
      clear hw HW
      subst hw'
      go_wp2
      go_roundw
      case rel => exact ⟨.inr (⟨rfl, rfl, HC9⟩), HX9, HS9, HL9, HK9⟩
      case measure => simp [intOf]
    · obtain ⟨c0, c1, c2, c3, c4, f3, f4⟩ := look5 HC.out
      have hk9 := kept_set wr g 4 (.int .i64 2)
      have hC9 := set_block wr g 4 _ _ _ HC.out (.int .i64 2)
      have HC9 := hid_of hC9
      have HK9 := hid_of (HK.out.trans hk9)
      clear hk9 hC9
      go_wp2
      go_ret2
      exact ⟨rfl, HC9.out, HK9.out⟩
set_option maxHeartbeats 8000000 in
theorem cpart_0 (g gf gp : Nat) (deep : Int) (w : World) (hS : SumU w gf gp) (hC : w.heap[g]? = some (.cells (ckC gf gp 0 5 0) 132 (0, 0))) (hL : Laid w) (h0 : 0 < g) (hd0 : 0 ≤ deep) (hd1 : deep ≤ 60) :
    Calls Tryd.prog 57 #[.pointer (some ⟨g, 0, none⟩), .int .i64 0, .int .i64 deep, .int .i64 0] w fun e w' => e = .returned (.tuple #[.int .i64 0, .int .i64 0]) ∧ w'.heap[g]? = some (.cells (ckC gf gp 12 0 2) 132 (0, 0)) ∧ Kept (fun q => q = g) w w' := by
  obtain ⟨ne1, ne2⟩ := ck_apart hS hC
  have hdb : decide (64 < deep) = false := by simp; omega
  obtain ⟨W1, hW1⟩ : ∃ W, W = w.alloc (.cells #[.int .i64 1, .int .i64 0, .int .i64 1] 88) := ⟨_, rfl⟩
  obtain ⟨gx, hgx⟩ : ∃ z, z = w.heap.size := ⟨_, rfl⟩
  have hk1 : Kept (fun _ => False) w W1 := by rw [hW1]; exact (Kept.refl _ _).alloc _
  have hx1 : W1.heap[gx]? = some (.cells #[.int .i64 1, .int .i64 0, .int .i64 1] 88 (0, 0)) := by rw [hW1, hgx]; exact heap_alloc_new w _
  have hgl : g < gx := by rw [hgx]; exact (Array.getElem?_eq_some_iff.1 hC).1
  have hC1 := box_kept hk1 hC (fun f => f)
  have hk2 := kept_set W1 g 3 (.slice (some ⟨gp, 3, none⟩) 4 4)
  have hC2 := set_block W1 g 3 _ _ _ hC1 (.slice (some ⟨gp, 3, none⟩) 4 4)
  have hx2 := box_kept hk2 hx1 (by omega)
  have hS2 := (hS.kept hk1 (fun f => f) (fun f => f)).kept hk2 (fun e => ne1 e) (fun e => ne2 e)
  have hL2 := (hL.kept hk1 (fun f => f)).kept hk2 (fun e => by omega)
  have hkk : Kept (fun q => q = g) w (W1.setCell ⟨g, 3, none⟩ (.slice (some ⟨gp, 3, none⟩) 4 4)) := (hk1.mono (fun _ _ f => f.elim)).trans hk2
  have q0 : w.cell? ⟨gp, 0, none⟩ = some (.int .i64 1) := cell_block _ _ _ _ _ _ hS.p
  have q1 : w.cell? ⟨gp, 0 + 1, none⟩ = some (.int .i64 0) := cell_block _ _ _ _ _ _ hS.p
  have q2 : w.cell? ⟨gp, 0 + 2, none⟩ = some (.int .i64 1) := cell_block _ _ _ _ _ _ hS.p
  have q1' : w.cell? ⟨gp, 1, none⟩ = some (.int .i64 0) := q1
  have q2' : w.cell? ⟨gp, 2, none⟩ = some (.int .i64 1) := q2
  obtain ⟨c0, c1, c2, c3, c4, f3, f4⟩ := look5 hC
  obtain ⟨d0, d1, d2, d3, d4, g3, g4⟩ := look5 hC1
  have H0 := hid_of (stands_1 w)
  have HX2 := hid_of hx2
  have HS2 := hid_of hS2
  have HC2 := hid_of hC2
  have HL2 := hid_of hL2
  have HKK := hid_of hkk
  clear hk1 hx1 hC hS hL hC1 hk2 hC2 hx2 hS2 hL2 hkk
  go_enter Tryd.func57, Tryd.ntmps57
  go_wp2_with fail
  refine H0.out.mono ?_
  rintro e w9 ⟨rfl, hw⟩
  have hw' := hw.symm
  clear hw
  subst hw'
  go_upto_region 4 with fail
  rw [← hW1, ← hgx]
  clear hW1 hgx H0 q0 q1 q2 q1' q2' c0 c1 c2 c3 c4 f3 f4
  go_upto_region 5 with fail
  clear d0 d1 d2 d3 d4 g3 g4
  generalize W1.setCell ⟨g, 3, none⟩ (.slice (some ⟨gp, 3, none⟩) 4 4) = W2 at *
  obtain ⟨x0, x1, x2, _⟩ := look3 HX2.out
  have HN := hid_of (number_1 (.pointer (some ⟨g, 0, none⟩)) W2 HL2.out)
  go_wp2_with fail
  refine HN.out.mono ?_
  rintro e W3 ⟨rfl, hk3⟩
  clear HN x0 x1 x2
  have HX3 := hid_of (box_kept hk3 HX2.out (fun f => f))
  have HK3 := hid_of hk3
  clear hk3
  obtain ⟨x0, x1, x2, _⟩ := look3 HX3.out
  have HN := hid_of (kids_1 (.pointer (some ⟨g, 0, none⟩)) W3)
  go_wp2_with fail
  refine HN.out.mono ?_
  rintro e W4 ⟨rfl, hk4⟩
  clear HN x0 x1 x2
  have HX4 := hid_of (box_kept hk4 HX3.out (fun f => f))
  have HC4 := hid_of (box_kept (HK3.out.trans hk4) HC2.out (fun f => f))
  have HS4 := hid_of (HS2.out.kept (HK3.out.trans hk4) (fun f => f) (fun f => f))
  have HL4 := hid_of (HL2.out.kept (HK3.out.trans hk4) (fun f => f))
  have HK4 : Hid (Kept (fun q => q = g) w W4) := HKK.out.step (HK3.out.trans hk4) (fun _ _ f => f.elim)
  clear hk4 HX2 HX3 HK3 HS2 HC2 HL2 HKK
  obtain ⟨x0, x1, x2, _⟩ := look3 HX4.out
  have HN := hid_of (least_1 W4)
  go_wp2_with fail
  refine HN.out.mono ?_
  rintro e w9 ⟨rfl, hw⟩
  have hw' := hw.symm
  clear hw HN
  subst hw'
  go_upto_region 14 with fail
  go_wp2_with fail
  clear x0 x1 x2
  go_loopw [13, 70] (fun mv iv wr => ((iv = .int .i64 0 ∧ mv = .int .i64 0 ∧ Hid (wr.heap[g]? = some (.cells (ckC gf gp 3 4 0) 132 (0, 0)))) ∨ (iv = .int .i64 1 ∧ mv = .int .i64 0 ∧ Hid (wr.heap[g]? = some (.cells (ckC gf gp 12 0 2) 132 (0, 0))))) ∧ Hid (wr.heap[gx]? = some (.cells #[.int .i64 1, .int .i64 0, .int .i64 1] 88 (0, 0))) ∧ Hid (SumU wr gf gp) ∧ Hid (Laid wr) ∧ Hid (Kept (fun q => q = g) w wr)) (fun _ iv _ => 1 - (intOf iv).toNat)
  case atStart => exact ⟨.inl ⟨rfl, rfl, HC4⟩, HX4, HS4, HL4, HK4⟩
  case round =>
    clear HC4 HX4 HS4 HL4 HK4
    obtain ⟨hcase, HX, HS, HL, HK⟩ := hrel
    obtain ⟨x0, x1, x2, _⟩ := look3 HX.out
    rcases hcase with ⟨rfl, rfl, HC⟩ | ⟨rfl, rfl, HC⟩
    · have HP := hid_of (place_1_0 wr)
      go_wp2_with fail
      refine HP.out.mono ?_
      rintro e w9 ⟨rfl, hw⟩
      have hw' := hw.symm
      clear hw HP
      subst hw'
      have HQ := hid_of (cpart_1 g gf gp (deep + 1) wr HS.out HC.out HL.out h0 (by omega) (by omega))
      have hw1 : IntKind.i64.wrap (deep + 1) = deep + 1 := by simp [IntKind.wrap, IntKind.bits, IntKind.signed]; omega
      go_wp2_with fail
      refine HQ.out.mono ?_
      rintro e w5 ⟨rfl, hc5, hk5⟩
      clear HQ hw1 x0 x1 x2
      have HC9 := hid_of hc5
      have HX9 := hid_of (box_kept hk5 HX.out (by omega))
      have HS9 := hid_of (HS.out.kept hk5 (fun e => ne1 e) (fun e => ne2 e))
      have HL9 := hid_of (HL.out.kept hk5 (by omega))
      have HK9 := hid_of (HK.out.trans hk5)
      clear hc5 hk5 HX HS HL HK HC
      obtain ⟨x0, x1, x2, _⟩ := look3 HX9.out
      have HW := hid_of (wanted_1_0 w5)
      go_wp2_with fail
      refine HW.out.mono ?_
      rintro e w9 ⟨rfl, hw⟩
      have hw' := hw.symm
      clear hw HW
      subst hw'
      go_wp2
      go_roundw
      case rel => exact ⟨.inr (⟨rfl, rfl, HC9⟩), HX9, HS9, HL9, HK9⟩
      case measure => simp [intOf]
    · obtain ⟨c0, c1, c2, c3, c4, f3, f4⟩ := look5 HC.out
      have hk9 := kept_set wr g 4 (.int .i64 2)
      have hC9 := set_block wr g 4 _ _ _ HC.out (.int .i64 2)
      have HC9 := hid_of hC9
      have HK9 := hid_of (HK.out.trans hk9)
      clear hk9 hC9
      go_wp2
      go_ret2
      exact ⟨rfl, HC9.out, HK9.out⟩
end Go.Proofs.YtfblffledokjkaaDoor

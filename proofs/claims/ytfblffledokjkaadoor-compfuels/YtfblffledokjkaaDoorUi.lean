/-
  The fixed unit: its code fits.
-/
import Derived.Test.YtfblffledokjkaaDoorUh
namespace Go.Proofs.YtfblffledokjkaaDoor
open Go.RowKit
set_option linter.unusedVariables false
set_option linter.unusedSimpArgs false
set_option maxRecDepth 100000

set_option maxHeartbeats 2000000 in
theorem ends_nil (w : World) : Calls Tryd.prog 25 #[.slice none 0 0] w fun e w' => ∃ g, e = .returned (.slice (some ⟨g, 0, none⟩) 1 1) ∧ w'.heap[g]? = some (.cells #[.int .i64 0] 3 (0, 0)) ∧ w.heap.size ≤ g ∧ Kept (fun _ => False) w w' := by
  obtain ⟨W, hW⟩ : ∃ W, W = w.alloc (.cells #[.int .i64 0] 3) := ⟨_, rfl⟩
  obtain ⟨g, hg⟩ : ∃ z, z = w.heap.size := ⟨_, rfl⟩
  have hk : Kept (fun _ => False) w W := by rw [hW]; exact (Kept.refl _ _).alloc _
  have hx : W.heap[g]? = some (.cells #[.int .i64 0] 3 (0, 0)) := by rw [hW, hg]; exact heap_alloc_new w _
  have HK := hid_of hk
  have HX := hid_of hx
  have HG : Hid (w.heap.size ≤ g) := by unfold Hid; omega
  clear hk hx
  go_enter Tryd.func25, Tryd.ntmps25
  go_upto_region 2 with fail
  rw [← hW, ← hg]
  clear hW hg
  go_wp2_with fail
  go_loopw [3, 10] (fun sv iv wr => sv = .slice (some ⟨g, 0, none⟩) 1 1 ∧ iv = .int .i64 0 ∧ wr = W) (fun _ _ _ => 0)
  case atStart => exact ⟨rfl, rfl, rfl⟩
  case round =>
    obtain ⟨rfl, rfl, hw⟩ := hrel
    have hw' := hw.symm
    clear hw
    subst hw'
    go_wp2
    go_ret
    exact ⟨g, rfl, HX.out, HG.out, HK.out⟩
set_option maxHeartbeats 2000000 in
theorem bytes_nil (w : World) : Calls Tryd.prog 24 #[.slice none 0 0] w fun e w' => e = .returned (.slice none 0 0) ∧ w' = w := by
  go_enter Tryd.func24, Tryd.ntmps24
  go_wp2_with fail
  go_loopw [3, 8] (fun sv iv wr => sv = .slice none 0 0 ∧ iv = .int .i64 0 ∧ wr = w) (fun _ _ _ => 0)
  case atStart => exact ⟨rfl, rfl, rfl⟩
  case round =>
    obtain ⟨rfl, rfl, hw⟩ := hrel
    have hw' := hw.symm
    clear hw
    subst hw'
    go_wp2
    go_ret
    exact ⟨rfl, rfl⟩
set_option maxHeartbeats 4000000 in
theorem fits_any (gf gp : Nat) (mem : Int) (w : World) (hS : SumU w gf gp) (hL : Laid w) (hm0 : 0 ≤ mem) (hm1 : mem ≤ 65536) :
    Calls Tryd.prog 23 #[.agg #[.slice none 0 0, .slice (some ⟨gf, 0, none⟩) 1 1], .int .i64 mem] w fun e w' => e = .returned (.int .i64 0) ∧ Kept (fun _ => False) w w' := by
  have e1 : decide (mem < 0) = false := by simp; omega
  have e2 : decide (65536 < mem) = false := by simp; omega
  obtain ⟨W, hW⟩ : ∃ W, W = w.alloc (.cells #[.slice none 0 0, .slice (some ⟨gf, 0, none⟩) 1 1] 25) := ⟨_, rfl⟩
  obtain ⟨gs, hgs⟩ : ∃ z, z = w.heap.size := ⟨_, rfl⟩
  have hk : Kept (fun _ => False) w W := by rw [hW]; exact (Kept.refl _ _).alloc _
  have hb : W.heap[gs]? = some (.cells #[.slice none 0 0, .slice (some ⟨gf, 0, none⟩) 1 1] 25 (0, 0)) := by rw [hW, hgs]; exact heap_alloc_new w _
  have HB := hid_of hb
  have HK := hid_of hk
  have HS := hid_of (hS.kept hk (fun f => f) (fun f => f))
  have HL := hid_of (hL.kept hk (fun f => f))
  have H1 := hid_of (tcheck gf gp W HS.out HL.out)
  obtain ⟨c0, c1, _⟩ := look2 hb
  clear hk hb hS hL
  go_enter Tryd.func23, Tryd.ntmps23
  go_upto_region 1 with fail
  rw [← hW, ← hgs]
  clear hW hgs
  go_wp2_with fail
  refine H1.out.mono ?_
  rintro e w1 ⟨rfl, hk1⟩
  have HK1 := hid_of hk1
  clear c0 c1 H1 hk1
  obtain ⟨c0, c1, _⟩ := look2 (box_kept HK1.out HB.out (fun f => f))
  have H2 := hid_of (ends_nil w1)
  go_wp2_with fail
  refine H2.out.mono ?_
  rintro e w2 ⟨ge, rfl, hge, _, hk2⟩
  have HK2 := hid_of (HK1.out.trans hk2)
  clear c0 c1 H2 hk2
  obtain ⟨c0, c1, _⟩ := look2 (box_kept HK2.out HB.out (fun f => f))
  have g0 : w2.cell? ⟨ge, 0, none⟩ = some (.int .i64 0) := cell_block _ _ 0 _ _ _ hge
  obtain ⟨f0, f1, f2, f3, _⟩ := look4 (HS.out.kept HK2.out (fun f => f) (fun f => f)).f
  obtain ⟨W3, hW3⟩ : ∃ W, W = w2.alloc (.cells #[.string ⟨#[109, 97, 105, 110]⟩, .int .i64 0, .slice none 0 0, .slice (some ⟨gp, 0, none⟩) 5 5] 59) := ⟨_, rfl⟩
  have hk3 : Kept (fun _ => False) w2 W3 := by rw [hW3]; exact (Kept.refl _ _).alloc _
  have hb3 : W3.heap[w2.heap.size]? = some (.cells #[.string ⟨#[109, 97, 105, 110]⟩, .int .i64 0, .slice none 0 0, .slice (some ⟨gp, 0, none⟩) 5 5] 59 (0, 0)) := by rw [hW3]; exact heap_alloc_new w2 _
  obtain ⟨W4, hW4⟩ : ∃ W, W = W3.alloc (.cells #[.int .i64 0] 92) := ⟨_, rfl⟩
  obtain ⟨gt, hgt⟩ : ∃ z, z = W3.heap.size := ⟨_, rfl⟩
  have hk4 : Kept (fun _ => False) W3 W4 := by rw [hW4]; exact (Kept.refl _ _).alloc _
  have hb4 : W4.heap[gt]? = some (.cells #[.int .i64 0] 92 (0, 0)) := by rw [hW4, hgt]; exact heap_alloc_new W3 _
  have HB4 := hid_of hb4
  have HB3 := hid_of hb3
  have HF4 := hid_of (box_kept hk4 hb3 (fun f => f))
  have HK4 := hid_of ((HK2.out.trans hk3).trans hk4)
  have hsz : w2.heap.size < gt := by rw [hgt, hW3]; simp
  have HSZ : Hid (W.heap.size ≤ w2.heap.size) := HK2.out.size
  have HG4 : Hid (gt ≤ W4.heap.size) := by have := (Array.getElem?_eq_some_iff.1 hb4).1; unfold Hid; omega
  clear hk3 hb3 hk4 hb4 hge
  go_wp2_with fail
  clear c0 c1 g0
  go_loopw [37] (fun iv wr => (iv = .int .i64 0 ∧ wr = w2) ∨ (iv = .int .i64 1 ∧ Hid (Kept (fun _ => False) w wr))) (fun iv _ => 1 - (intOf iv).toNat)
  case atStart => exact .inl ⟨rfl, rfl⟩
  case round =>
    rcases hrel with ⟨rfl, hw⟩ | ⟨rfl, HKE⟩
    · have hw' := hw.symm
      clear hw
      subst hw'
      go_upto_region 12 with fail
      rw [← hW3]
      clear hW3 f0 f1 f2 f3
      go_upto_region 13 with fail
      rw [← hW4, ← hgt]
      clear hW4 hgt
      obtain ⟨f0, f1, f2, f3, _⟩ := look4 HF4.out
      have hS4 := HS.out.kept HK4.out (fun f => f) (fun f => f)
      have hgf : gf < gt := by have h9 := (Array.getElem?_eq_some_iff.1 HS.out.f).1; have h8 := HSZ.out; omega
      have hgp : gp < gt := by have h9 := (Array.getElem?_eq_some_iff.1 HS.out.p).1; have h8 := HSZ.out; omega
      have HWR := hid_of (write_any 90 gt (sh_t gt gt) gf gp (some ⟨ge, 0, none⟩) 1 1 W4 ⟨Nat.le_refl _, HB4.out⟩ (fun w' hk => ⟨Nat.le_refl _, box_kept hk HB4.out (fun f => f)⟩) hS4 hgf hgp HG4.out)
      clear hS4
      go_wp2_with fail
      refine HWR.out.mono ?_
      rintro e w5 ⟨rfl, ht5, hk5, _⟩
      have n5 : w5.cell? ⟨gt, 0, none⟩ = some (.int .i64 6) := cell_block _ _ 0 _ _ _ ht5.2
      have HK5 : Hid (Kept (fun _ => False) w w5) := (HK.out.trans HK4.out).step hk5 (fun i hi e => by have h9 := HSZ.out; have h8 := HK.out.size; omega)
      clear hk5 ht5 f0 f1 f2 f3 HWR
      go_wp2
      go_roundw
      case rel => exact .inr ⟨rfl, HK5⟩
      case measure => simp [intOf]
    · clear f0 f1 f2 f3
      go_wp2
      go_ret
      exact ⟨rfl, HKE.out⟩
end Go.Proofs.YtfblffledokjkaaDoor

/-
  The fixed unit: its origins; head; CompFuels.
-/
import Derived.Test.YtfblffledokjkaaDoorUj
namespace Go.Proofs.YtfblffledokjkaaDoor
open Go.RowKit
set_option linter.unusedVariables false
set_option linter.unusedSimpArgs false
set_option maxRecDepth 100000

set_option maxHeartbeats 8000000 in
theorem origin_any (gf gp : Nat) (w : World) (hS : SumU w gf gp) (hL : Laid w) :
    Calls Tryd.prog 16 #[.agg #[.slice none 0 0, .slice (some ⟨gf, 0, none⟩) 1 1]] w fun e w' => Kept (fun _ => False) w w' ∧ ∃ gF cF gC cC, e = .returned (.tuple #[.slice (some ⟨gF, 0, none⟩) 1 cF, .int .i64 0]) ∧ w'.cell? ⟨gF, 0, none⟩ = some (.slice (some ⟨gC, 0, none⟩) 6 cC) ∧ w'.cell? ⟨gC, 0, none⟩ = some (.int .i64 3) := by
  obtain ⟨W, hW⟩ : ∃ W, W = w.alloc (.cells #[.slice none 0 0, .slice (some ⟨gf, 0, none⟩) 1 1] 25) := ⟨_, rfl⟩
  obtain ⟨gs, hgs⟩ : ∃ z, z = w.heap.size := ⟨_, rfl⟩
  have hk : Kept (fun _ => False) w W := by rw [hW]; exact (Kept.refl _ _).alloc _
  have hb : W.heap[gs]? = some (.cells #[.slice none 0 0, .slice (some ⟨gf, 0, none⟩) 1 1] 25 (0, 0)) := by rw [hW, hgs]; exact heap_alloc_new w _
  have HB := hid_of hb
  have HK := hid_of hk
  have HS := hid_of (hS.kept hk (fun f => f) (fun f => f))
  have HL := hid_of (hL.kept hk (fun f => f))
  have H1 := hid_of (fits_any gf gp 65536 W HS.out HL.out (by omega) (by omega))
  obtain ⟨c0, c1, _⟩ := look2 hb
  clear hk hb hS hL
  go_enter Tryd.func16, Tryd.ntmps16
  go_upto_region 1 with fail
  rw [← hW, ← hgs]
  clear hW hgs
  go_wp2_with fail
  refine H1.out.mono ?_
  rintro e w1 ⟨rfl, hk1⟩
  have HK1 := hid_of hk1
  clear c0 c1 H1 hk1
  obtain ⟨c0, c1, _⟩ := look2 (box_kept HK1.out HB.out (fun f => f))
  have H2 := hid_of (ends_nil w1)
  go_wp2_with fail
  refine H2.out.mono ?_
  rintro e w4 ⟨ge, rfl, _, _, hk4⟩
  have HK4 := hid_of (HK1.out.trans hk4)
  clear c0 c1 H2 hk4 HK1
  obtain ⟨c0, c1, _⟩ := look2 (box_kept HK4.out HB.out (fun f => f))
  obtain ⟨f0, f1, f2, f3, _⟩ := look4 (HS.out.kept HK4.out (fun f => f) (fun f => f)).f
  obtain ⟨W5, hW5⟩ : ∃ W, W = w4.alloc (.cells #[.string ⟨#[109, 97, 105, 110]⟩, .int .i64 0, .slice none 0 0, .slice (some ⟨gp, 0, none⟩) 5 5] 59) := ⟨_, rfl⟩
  obtain ⟨gx, hgx⟩ : ∃ z, z = w4.heap.size := ⟨_, rfl⟩
  have hk5 : Kept (fun _ => False) w4 W5 := by rw [hW5]; exact (Kept.refl _ _).alloc _
  have hb5 : W5.heap[gx]? = some (.cells #[.string ⟨#[109, 97, 105, 110]⟩, .int .i64 0, .slice none 0 0, .slice (some ⟨gp, 0, none⟩) 5 5] 59 (0, 0)) := by rw [hW5, hgx]; exact heap_alloc_new w4 _
  obtain ⟨W6, hW6⟩ : ∃ W, W = W5.alloc (.cells #[.slice none 0 0] 86) := ⟨_, rfl⟩
  obtain ⟨gc, hgc⟩ : ∃ z, z = W5.heap.size := ⟨_, rfl⟩
  have hk6 : Kept (fun _ => False) W5 W6 := by rw [hW6]; exact (Kept.refl _ _).alloc _
  have hb6 : W6.heap[gc]? = some (.cells #[.slice none 0 0] 86 (0, 0)) := by rw [hW6, hgc]; exact heap_alloc_new W5 _
  have HB6 := hid_of hb6
  have HF6 := hid_of (box_kept hk6 hb5 (fun f => f))
  have HK6 := hid_of ((HK4.out.trans hk5).trans hk6)
  have HSZ : Hid (W.heap.size ≤ gx) := by unfold Hid; rw [hgx]; exact HK4.out.size
  have hsx : gx < gc := by have h9 := (Array.getElem?_eq_some_iff.1 hb5).1; omega
  have HG6 : Hid (gc ≤ W6.heap.size) := by have := (Array.getElem?_eq_some_iff.1 hb6).1; unfold Hid; omega
  clear hk5 hb5 hk6 hb6
  go_wp2_with fail
  clear c0 c1
  go_loopw [5, 21] (fun lv iv wr => (lv = .slice none 0 0 ∧ iv = .int .i64 0 ∧ wr = w4) ∨ (∃ gF cF, lv = .slice (some ⟨gF, 0, none⟩) 1 cF ∧ iv = .int .i64 1 ∧ Hid (∃ gC cC, wr.cell? ⟨gF, 0, none⟩ = some (.slice (some ⟨gC, 0, none⟩) 6 cC) ∧ wr.cell? ⟨gC, 0, none⟩ = some (.int .i64 3)) ∧ Hid (Kept (fun _ => False) W wr))) (fun _ iv _ => 1 - (intOf iv).toNat)
  case atStart => exact .inl ⟨rfl, rfl, rfl⟩
  case round =>
    rcases hrel with ⟨rfl, rfl, hw⟩ | ⟨gF, cF, rfl, rfl, HFIN, HKF⟩
    · have hw' := hw.symm
      clear hw
      subst hw'
      go_upto_region 9 with fail
      rw [← hW5, ← hgx]
      clear hW5 hgx f0 f1 f2 f3
      go_upto_region 10 with fail
      rw [← hW6, ← hgc]
      clear hW6 hgc
      obtain ⟨f0, f1, f2, f3, _⟩ := look4 HF6.out
      have hS6 := HS.out.kept HK6.out (fun f => f) (fun f => f)
      have hgf : gf < gc := by have h9 := (Array.getElem?_eq_some_iff.1 HS.out.f).1; have h8 := HSZ.out; omega
      have hgp : gp < gc := by have h9 := (Array.getElem?_eq_some_iff.1 HS.out.p).1; have h8 := HSZ.out; omega
      have HWR := hid_of (write_any 84 gc (sh_o gc gc) gf gp (some ⟨ge, 0, none⟩) 1 1 W6 ⟨Nat.le_refl _, _, HB6.out, World.ownsRow_nil _ _ _ _⟩ (fun w' hk => ⟨Nat.le_refl _, _, box_kept hk HB6.out (fun f => f), World.ownsRow_nil _ _ _ _⟩) hS6 hgf hgp HG6.out)
      clear hS6
      go_wp2_with fail
      refine HWR.out.mono ?_
      rintro e w7 ⟨rfl, ⟨_, v7, hv7, ho7⟩, hk7, _⟩
      obtain ⟨gC, cC, e7⟩ := own_at ho7 (by decide)
      have e7' : v7 = .slice (some ⟨gC, 0, none⟩) 6 cC := e7
      subst e7'
      have hc4 : w7.cell? ⟨gC, 0, none⟩ = some (.int .i64 3) := by
        have h9 := ho7.cells rfl 0 (.int .i64 3) rfl
        rwa [Addr.add_lit, Nat.zero_add] at h9
      have v0 : w7.cell? ⟨gc, 0, none⟩ = some (.slice (some ⟨gC, 0, none⟩) 6 cC) := cell_block _ _ 0 _ _ _ hv7
      have HK7 : Hid (Kept (fun _ => False) W w7) := HK6.out.step hk7 (fun i hi e => by have h9 := HSZ.out; omega)
      obtain ⟨v9, w9, hr9, ho9, hk9⟩ := push_l (W := w7) (.slice (some ⟨gC, 0, none⟩) 6 cC) rfl
      obtain ⟨gF, cF, e9⟩ := own_at ho9 (by decide)
      subst e9
      have hF0 : w9.cell? ⟨gF, 0, none⟩ = some (.slice (some ⟨gC, 0, none⟩) 6 cC) := by
        have h9 := ho9.cells rfl 0 (.slice (some ⟨gC, 0, none⟩) 6 cC) rfl
        rwa [Addr.add_lit, Nat.zero_add] at h9
      have HFIN : Hid (∃ gC cC, w9.cell? ⟨gF, 0, none⟩ = some (.slice (some ⟨gC, 0, none⟩) 6 cC) ∧ w9.cell? ⟨gC, 0, none⟩ = some (.int .i64 3)) := ⟨gC, cC, hF0, hk9.cell hc4 (fun f => f)⟩
      have HKF := hid_of (HK7.out.trans hk9)
      have HR9 := hid_of hr9
      clear hk7 f0 f1 f2 f3 HWR hv7 ho7 hc4 hr9 ho9 hk9 hF0
      go_wp2_with (at_builtin; refine wp_app2 rfl (.tmp 33) (.tmp 38) 43 43 rfl _ _ rfl rfl _ w9 HR9.out ?_)
      go_roundw
      case rel => exact .inr ⟨gF, cF, rfl, rfl, HFIN, HKF⟩
      case measure => simp [intOf]
    · clear f0 f1 f2 f3
      obtain ⟨gC, cC, hF0, hC0⟩ := HFIN.out
      have HF0 := hid_of hF0
      have HC0 := hid_of hC0
      clear hF0 hC0
      go_wp2
      go_ret2
      exact ⟨HK.out.trans HKF.out, gF, cF, gC, cC, rfl, HF0.out, HC0.out⟩
def fuelV (s : Int) : Int := if s < 0 then 0 else if 1048576 < s then 8388608 else 8 * s
set_option maxHeartbeats 2000000 in
theorem fuel_any (s : Int) (w : World) : Calls Tryd.prog 13 #[.int .i64 s] w fun e w' => e = .returned (.int .i64 (fuelV s)) ∧ w' = w := by
  unfold fuelV
  by_cases h0 : s < 0
  · rw [if_pos h0]
    have m1 : max s 0 = 0 := by omega
    go_enter Tryd.func13, Tryd.ntmps13
    go_wp2
    go_ret
    exact ⟨rfl, rfl⟩
  · rw [if_neg h0]
    by_cases h1 : 1048576 < s
    · rw [if_pos h1]
      go_enter Tryd.func13, Tryd.ntmps13
      go_wp2
      go_ret
      exact ⟨rfl, rfl⟩
    · rw [if_neg h1]
      have hw : IntKind.i64.wrap (8 * s) = 8 * s := by simp [IntKind.wrap, IntKind.bits, IntKind.signed]; omega
      go_enter Tryd.func13, Tryd.ntmps13
      go_wp2
      go_ret
      exact ⟨rfl, rfl⟩
set_option maxHeartbeats 2000000 in
theorem rfuel_any (s : Int) (w : World) : Calls Tryd.prog 14 #[.int .i64 s] w fun e w' => e = .returned (.int .i64 (fuelV s)) ∧ w' = w := by
  unfold fuelV
  by_cases h0 : s < 0
  · rw [if_pos h0]
    go_enter Tryd.func14, Tryd.ntmps14
    go_wp2
    go_ret
    exact ⟨rfl, rfl⟩
  · rw [if_neg h0]
    have e0 : decide (s < 0) = false := by simpa using h0
    by_cases h1 : 1048576 < s
    · rw [if_pos h1]
      go_enter Tryd.func14, Tryd.ntmps14
      go_wp2
      go_ret
      exact ⟨rfl, rfl⟩
    · rw [if_neg h1]
      have e1 : decide (1048576 < s) = false := by simpa using h1
      have hw : IntKind.i64.wrap (8 * s) = 8 * s := by simp [IntKind.wrap, IntKind.bits, IntKind.signed]; omega
      go_enter Tryd.func14, Tryd.ntmps14
      go_wp2
      go_ret
      exact ⟨rfl, rfl⟩
set_option maxHeartbeats 8000000 in
theorem head_any (w : World) (hL : Laid w) : Calls Tryd.prog 7 #[] w fun e w' => e = .returned (.bool true) ∧ Kept (fun _ => False) w w' := by
  have HS := hid_of sum_any
  have HL := hid_of hL
  clear hL
  go_enter Tryd.func7, Tryd.ntmps7
  go_wp2_with fail
  refine (HS.out _).mono ?_
  rintro e w1 ⟨gf, gp, rfl, hs1, hk1⟩
  have HC := hid_of (compile_any gf gp w1 hs1 (HL.out.kept hk1 (fun f => f)))
  have HK1 := hid_of hk1
  clear hs1 hk1
  go_wp2_with fail
  refine HC.out.mono ?_
  rintro e w2 ⟨hk2, gF, cF, gC, cC, rfl, hF3, hC4⟩
  obtain ⟨W3, hW3⟩ : ∃ W, W = w2.alloc (.cells #[.int .i64 0, .slice none 0 0, .slice (some ⟨gF, 0, none⟩) 1 cF] 32) := ⟨_, rfl⟩
  obtain ⟨g1, hg1⟩ : ∃ z, z = w2.heap.size := ⟨_, rfl⟩
  have hk3 : Kept (fun _ => False) w2 W3 := by rw [hW3]; exact (Kept.refl _ _).alloc _
  have hb3 : W3.heap[g1]? = some (.cells #[.int .i64 0, .slice none 0 0, .slice (some ⟨gF, 0, none⟩) 1 cF] 32 (0, 0)) := by rw [hW3, hg1]; exact heap_alloc_new w2 _
  have HB3 := hid_of hb3
  have HF3 := hid_of (hk3.cell hF3 (fun f => f))
  have HC4 := hid_of (hk3.cell hC4 (fun f => f))
  have HK3 := hid_of ((HK1.out.trans hk2).trans hk3)
  clear hk2 hF3 hC4 hk3 hb3 HC HK1
  go_upto_region 2 with fail
  rw [← hW3, ← hg1]
  clear hW3 hg1
  go_wp2_with fail
  refine (HS.out _).mono ?_
  rintro e w4 ⟨gf2, gp2, rfl, hs4, hk4⟩
  have HO := hid_of (origin_any gf2 gp2 w4 hs4 (HL.out.kept (HK3.out.trans hk4) (fun f => f)))
  have HK4 := hid_of hk4
  clear hs4 hk4
  go_wp2_with fail
  refine HO.out.mono ?_
  rintro e w5 ⟨hk5, hF, dF, hC, dC, rfl, hF0, hC0⟩
  have hkk := HK4.out.trans hk5
  obtain ⟨p0, p1, p2, _⟩ := look3 (box_kept hkk HB3.out (fun f => f))
  have q3 := hkk.cell HF3.out (fun f => f)
  have q4 := hkk.cell HC4.out (fun f => f)
  have HK5 := hid_of (HK3.out.trans hkk)
  have HFU := hid_of (fuel_any 3 w5)
  rw [show fuelV 3 = 24 from rfl] at HFU
  clear hk5 hkk HO HB3 HF3 HC4 HK3 HK4
  go_wp2_with fail
  refine HFU.out.mono ?_
  rintro e w9 ⟨rfl, hw⟩
  have hw' := hw.symm
  clear hw
  subst hw'
  go_wp2
  go_ret
  exact ⟨rfl, HK5.out⟩
set_option maxHeartbeats 2000000 in
theorem compFuels_walk (s : Int) (w : World) (hL : Laid w) : Calls Tryd.prog 4 #[.int .i64 s] w fun e w' => e = .returned (.bool true) ∧ Kept (fun _ => False) w w' := by
  have H1 := hid_of (fuel_any s w)
  have H2 := hid_of (rfuel_any s w)
  have H3 := hid_of (head_any w hL)
  generalize fuelV s = v at *
  go_enter Tryd.func4, Tryd.ntmps4
  go_wp2_with fail
  refine H1.out.mono ?_
  rintro e w9 ⟨rfl, hw⟩
  have hw' := hw.symm
  clear hw
  subst hw'
  go_wp2_with fail
  refine H2.out.mono ?_
  rintro e w9 ⟨rfl, hw⟩
  have hw' := hw.symm
  clear hw
  subst hw'
  go_wp2_with fail
  refine H3.out.mono ?_
  rintro e w5 ⟨rfl, hk5⟩
  have HK5 := hid_of hk5
  clear hk5
  go_wp2
  go_ret
  exact ⟨rfl, HK5.out⟩
end Go.Proofs.YtfblffledokjkaaDoor

/-
  The fixed unit: it may be.
-/
import Derived.Test.YtfblffledokjkaaDoorUd
namespace Go.Proofs.YtfblffledokjkaaDoor
open Go.RowKit
set_option linter.unusedVariables false
set_option linter.unusedSimpArgs false
set_option maxRecDepth 100000

theorem allocs3 (w : World) (c1 : Array Value) (t1 : TypeId) (c2 : Array Value) (t2 : TypeId) (c3 : Array Value) (t3 : TypeId) (W : World) (hW : W = ((w.alloc (.cells c1 t1)).alloc (.cells c2 t2)).alloc (.cells c3 t3)) :
    Kept (fun _ => False) w W ∧ W.heap[w.heap.size]? = some (.cells c1 t1 (0, 0)) ∧ W.heap[w.heap.size + 1]? = some (.cells c2 t2 (0, 0)) ∧ W.heap[w.heap.size + 2]? = some (.cells c3 t3 (0, 0)) := by
  subst hW
  refine ⟨(((Kept.refl _ _).alloc _).alloc _).alloc _, ?_, ?_, ?_⟩
  · rw [heap_alloc_old _ _ (by simp; omega), heap_alloc_old _ _ (by simp)]; exact heap_alloc_new w _
  · rw [heap_alloc_old _ _ (by simp)]
    have := heap_alloc_new (w.alloc (.cells c1 t1)) (.cells c2 t2)
    simpa using this
  · have := heap_alloc_new ((w.alloc (.cells c1 t1)).alloc (.cells c2 t2)) (.cells c3 t3)
    simpa using this
set_option maxHeartbeats 4000000 in
theorem cparts (gf gp : Nat) (w : World) (hS : SumU w gf gp) (hL : Laid w) :
    Calls Tryd.prog 45 #[.agg #[.slice none 0 0, .slice (some ⟨gf, 0, none⟩) 1 1], .agg #[.string ⟨#[109, 97, 105, 110]⟩, .int .i64 0, .slice none 0 0, .slice (some ⟨gp, 0, none⟩) 5 5]] w fun e w' => e = .returned (.int .i64 0) ∧ Kept (fun _ => False) w w' := by
  obtain ⟨W, hW⟩ : ∃ W, W = ((w.alloc (.cells #[.slice none 0 0, .slice (some ⟨gf, 0, none⟩) 1 1] 25)).alloc (.cells #[.string ⟨#[109, 97, 105, 110]⟩, .int .i64 0, .slice none 0 0, .slice (some ⟨gp, 0, none⟩) 5 5] 59)).alloc (.cells #[.slice none 0 0, .slice (some ⟨gf, 0, none⟩) 1 1, .int .i64 0, .slice (some ⟨gp, 0, none⟩) 5 5, .int .i64 0] 132) := ⟨_, rfl⟩
  obtain ⟨hk, hb1, hb2, hb3⟩ := allocs3 _ _ _ _ _ _ _ _ hW
  have hgp : 0 < w.heap.size + 2 := by omega
  have HP := hid_of (cpart_0 (w.heap.size + 2) gf gp 0 W (hS.kept hk (fun f => f) (fun f => f)) hb3 (hL.kept hk (fun f => f)) hgp (by omega) (by omega))
  have HK := hid_of hk
  have HSZ : Hid (∀ i, i < w.heap.size → i = w.heap.size + 2 → False) := fun i h1 h2 => by omega
  clear hk hb1 hb2 hb3 hgp hS hL
  go_enter Tryd.func45, Tryd.ntmps45
  go_upto_region 2 with fail
  rw [← hW]
  clear hW
  go_wp2_with fail
  refine HP.out.mono ?_
  rintro e w5 ⟨rfl, hc5, hk5⟩
  obtain ⟨c0, c1, c2, c3, c4, f3, f4⟩ := look5 hc5
  have HK5 := hid_of hk5
  clear hc5 hk5
  go_wp2
  go_ret
  exact ⟨rfl, HK.out.step HK5.out (fun i hi e => HSZ.out i hi e)⟩
set_option maxHeartbeats 4000000 in
theorem tbytes (w : World) : Calls Tryd.prog 54 #[.slice none 0 0] w fun e w' => e = .returned (.int .i64 0) ∧ w' = w := by
  go_enter Tryd.func54, Tryd.ntmps54
  go_wp2_with fail
  go_loopw [3, 8] (fun nv iv wr => nv = .int .i64 0 ∧ iv = .int .i64 0 ∧ wr = w) (fun _ _ _ => 0)
  case atStart => exact ⟨rfl, rfl, rfl⟩
  case round =>
    obtain ⟨rfl, rfl, hw⟩ := hrel
    have hw' := hw.symm
    clear hw
    subst hw'
    go_wp2
    go_ret
    exact ⟨rfl, rfl⟩
set_option maxHeartbeats 4000000 in
theorem csize (gf gp : Nat) (w : World) (hS : SumU w gf gp) :
    Calls Tryd.prog 43 #[.agg #[.slice none 0 0, .slice (some ⟨gf, 0, none⟩) 1 1]] w fun e w' => e = .returned (.int .i64 0) ∧ Kept (fun _ => False) w w' := by
  obtain ⟨W, hW⟩ : ∃ W, W = w.alloc (.cells #[.slice none 0 0, .slice (some ⟨gf, 0, none⟩) 1 1] 25) := ⟨_, rfl⟩
  have hk : Kept (fun _ => False) w W := by rw [hW]; exact (Kept.refl _ _).alloc _
  have hb : W.heap[w.heap.size]? = some (.cells #[.slice none 0 0, .slice (some ⟨gf, 0, none⟩) 1 1] 25 (0, 0)) := by rw [hW]; exact heap_alloc_new w _
  obtain ⟨c0, c1, _⟩ := look2 hb
  obtain ⟨f0, f1, f2, f3, _⟩ := look4 (box_kept hk hS.f (fun f => f))
  have HT := hid_of (tbytes W)
  have HK := hid_of hk
  clear hk hb hS
  go_enter Tryd.func43, Tryd.ntmps43
  go_upto_region 1 with fail
  rw [← hW]
  clear hW
  go_wp2_with fail
  refine HT.out.mono ?_
  rintro e w9 ⟨rfl, hw⟩
  have hw' := hw.symm
  clear hw
  subst hw'
  go_wp2
  go_ret
  exact ⟨rfl, HK.out⟩
set_option maxHeartbeats 4000000 in
theorem chead (gp r c : Nat) (w : World) (hb : w.heap[r]? = some (.map #[] c)) :
    Calls Tryd.prog 56 #[.agg #[.string ⟨#[109, 97, 105, 110]⟩, .int .i64 0, .slice none 0 0, .slice (some ⟨gp, 0, none⟩) 5 5], .map (some r)] w fun e w' => e = .returned (.int .i64 0) ∧ Kept (fun q => q = r) w w' := by
  obtain ⟨W, hW⟩ : ∃ W, W = w.alloc (.cells #[.string ⟨#[109, 97, 105, 110]⟩, .int .i64 0, .slice none 0 0, .slice (some ⟨gp, 0, none⟩) 5 5] 59) := ⟨_, rfl⟩
  have hk : Kept (fun _ => False) w W := by rw [hW]; exact (Kept.refl _ _).alloc _
  have hx : W.heap[w.heap.size]? = some (.cells #[.string ⟨#[109, 97, 105, 110]⟩, .int .i64 0, .slice none 0 0, .slice (some ⟨gp, 0, none⟩) 5 5] 59 (0, 0)) := by rw [hW]; exact heap_alloc_new w _
  have hrl : r < w.heap.size := (Array.getElem?_eq_some_iff.1 hb).1
  have hrn : w.heap.size ≠ r := by omega
  have HG := hid_of (give_main r c W (box_kept hk hb (fun f => f)))
  obtain ⟨f0, f1, f2, f3, _⟩ := look4 hx
  have HX := hid_of hx
  have HK := hid_of hk
  clear hk hx hb hrl
  go_enter Tryd.func56, Tryd.ntmps56
  go_upto_region 1 with fail
  rw [← hW]
  clear hW
  generalize w.heap.size = gs at *
  go_wp2_with fail
  refine HG.out.mono ?_
  rintro e w5 ⟨rfl, hk5⟩
  clear f0 f1 f2 f3
  obtain ⟨f0, f1, f2, f3, _⟩ := look4 (box_kept hk5 HX.out hrn)
  have HK5 : Hid (Kept (fun q => q = r) w w5) := (HK.out.mono (fun _ _ f => f.elim)).trans hk5
  clear hk5
  have hmm : ∀ W : World, (Instr.makeMap 127 none).run Tryd.prog W = .ok (.map (some W.heap.size)) (W.alloc (.map #[] 0)) := fun W => rfl
  have HK6 : Hid (Kept (fun q => q = r) w (w5.alloc (.map #[] 0))) := HK5.out.alloc _
  have g2 := ((Kept.refl (fun _ => False) w5).alloc (.map #[] 0)).cell f2 (fun f => f)
  go_upto_region 9 with fail
  generalize w5.alloc (.map #[] 0) = w6 at *
  clear hmm f0 f1 f2 f3
  go_wp2_with fail
  clear g2
  go_loopw [43] (fun iv wr => iv = .int .i64 0 ∧ wr = w6) (fun _ _ => 0)
  case atStart => exact ⟨rfl, rfl⟩
  case round =>
    obtain ⟨rfl, hw⟩ := hrel
    have hw' := hw.symm
    clear hw
    subst hw'
    go_wp2
    go_ret
    exact ⟨rfl, HK6.out⟩
set_option maxHeartbeats 1000000 in
theorem cnames (gf gp : Nat) (w : World) (hS : SumU w gf gp) :
    Calls Tryd.prog 44 #[.agg #[.slice none 0 0, .slice (some ⟨gf, 0, none⟩) 1 1]] w fun e w' => e = .returned (.int .i64 0) ∧ Kept (fun _ => False) w w' := by
  have hmm : ∀ W : World, (Instr.makeMap 127 none).run Tryd.prog W = .ok (.map (some W.heap.size)) (W.alloc (.map #[] 0)) := fun W => rfl
  obtain ⟨W0, hW0⟩ : ∃ W, W = w.alloc (.cells #[.slice none 0 0, .slice (some ⟨gf, 0, none⟩) 1 1] 25) := ⟨_, rfl⟩
  have hk0 : Kept (fun _ => False) w W0 := by rw [hW0]; exact (Kept.refl _ _).alloc _
  have hb0 : W0.heap[w.heap.size]? = some (.cells #[.slice none 0 0, .slice (some ⟨gf, 0, none⟩) 1 1] 25 (0, 0)) := by rw [hW0]; exact heap_alloc_new w _
  obtain ⟨W1, hW1⟩ : ∃ W, W = W0.alloc (.map #[] 0) := ⟨_, rfl⟩
  have hk1 : Kept (fun _ => False) W0 W1 := by rw [hW1]; exact (Kept.refl _ _).alloc _
  obtain ⟨W2, hW2⟩ : ∃ W, W = W1.alloc (.map #[] 0) := ⟨_, rfl⟩
  have hk2 : Kept (fun _ => False) W1 W2 := by rw [hW2]; exact (Kept.refl _ _).alloc _
  have hm2 : W2.heap[W1.heap.size]? = some (.map #[] 0) := by rw [hW2]; exact heap_alloc_new W1 _
  have hk02 := (hk0.trans hk1).trans hk2
  obtain ⟨c0, c1, _⟩ := look2 (box_kept (hk1.trans hk2) hb0 (fun f => f))
  obtain ⟨f0, f1, f2, f3, _⟩ := look4 (box_kept hk02 hS.f (fun f => f))
  obtain ⟨W3, hW3⟩ : ∃ W, W = W2.alloc (.cells #[.string ⟨#[109, 97, 105, 110]⟩, .int .i64 0, .slice none 0 0, .slice (some ⟨gp, 0, none⟩) 5 5] 59) := ⟨_, rfl⟩
  have hk3 : Kept (fun _ => False) W2 W3 := by rw [hW3]; exact (Kept.refl _ _).alloc _
  have hb3 : W3.heap[W2.heap.size]? = some (.cells #[.string ⟨#[109, 97, 105, 110]⟩, .int .i64 0, .slice none 0 0, .slice (some ⟨gp, 0, none⟩) 5 5] 59 (0, 0)) := by rw [hW3]; exact heap_alloc_new W2 _
  have HB3 := hid_of hb3
  have HCH := hid_of (chead gp W1.heap.size 0 W3 (box_kept hk3 hm2 (fun f => f)))
  have HK3 := hid_of (hk02.trans hk3)
  have HK2 := hid_of hk02
  have HSZ : Hid (∀ i, i < w.heap.size → i = W1.heap.size → False) := fun i h1 h2 => by have := (hk0.trans hk1).size; omega
  have e1 : W1.heap.size = W0.heap.size + 1 := by rw [hW1]; simp
  have e2 : W2.heap.size = W0.heap.size + 2 := by rw [hW2]; simp [e1]
  rw [e1] at HCH HSZ
  rw [e2] at HB3
  clear hk0 hb0 hk1 hk2 hm2 hk02 hk3 hb3 hS
  go_enter Tryd.func44, Tryd.ntmps44
  go_upto_region 1 with fail
  rw [← hW0]
  clear hW0
  go_upto_region 2 with fail
  rw [← hW1]
  rw [← hW2]
  clear hW1 hW2 hmm e1
  go_wp2_with fail
  go_loopw [16] (fun iv wr => iv = .int .i64 0 ∧ wr = W2) (fun _ _ => 0)
  case atStart => exact ⟨rfl, rfl⟩
  case round =>
    obtain ⟨rfl, hw⟩ := hrel
    have hw' := hw.symm
    clear hw
    subst hw'
    go_wp2_with fail
    clear c0 c1
    go_loopw [31] (fun iv wr => (iv = .int .i64 0 ∧ wr = W2) ∨ (iv = .int .i64 1 ∧ Hid (Kept (fun _ => False) w wr))) (fun iv _ => 1 - (intOf iv).toNat)
    case atStart => exact .inl ⟨rfl, rfl⟩
    case round =>
      rcases hrel with ⟨rfl, hw⟩ | ⟨rfl, HKE⟩
      · have hw' := hw.symm
        clear hw
        subst hw'
        go_upto_region 12 with fail
        rw [← hW3]
        clear hW3 f0 f1 f2 f3 e2
        obtain ⟨f0, f1, f2, f3, _⟩ := look4 HB3.out
        go_wp2_with fail
        refine HCH.out.mono ?_
        rintro e w5 ⟨rfl, hk5⟩
        have HK5 : Hid (Kept (fun _ => False) w w5) := HK3.out.step hk5 (fun i hi e => HSZ.out i hi e)
        clear hk5 f0 f1 f2 f3
        go_wp2
        go_roundw
        case rel => exact .inr ⟨rfl, HK5⟩
        case measure => simp [intOf]
      · clear f0 f1 f2 f3
        go_wp2
        go_ret
        exact ⟨rfl, HKE.out⟩
set_option maxHeartbeats 4000000 in
theorem tcheck (gf gp : Nat) (w : World) (hS : SumU w gf gp) (hL : Laid w) :
    Calls Tryd.prog 32 #[.agg #[.slice none 0 0, .slice (some ⟨gf, 0, none⟩) 1 1]] w fun e w' => e = .returned (.int .i64 0) ∧ Kept (fun _ => False) w w' := by
  obtain ⟨W, hW⟩ : ∃ W, W = w.alloc (.cells #[.slice none 0 0, .slice (some ⟨gf, 0, none⟩) 1 1] 25) := ⟨_, rfl⟩
  obtain ⟨gs, hgs⟩ : ∃ z, z = w.heap.size := ⟨_, rfl⟩
  have hk : Kept (fun _ => False) w W := by rw [hW]; exact (Kept.refl _ _).alloc _
  have hb : W.heap[gs]? = some (.cells #[.slice none 0 0, .slice (some ⟨gf, 0, none⟩) 1 1] 25 (0, 0)) := by rw [hW, hgs]; exact heap_alloc_new w _
  have HB := hid_of hb
  have HK := hid_of hk
  have HS := hid_of (hS.kept hk (fun f => f) (fun f => f))
  have HL := hid_of (hL.kept hk (fun f => f))
  have H1 := hid_of (csize gf gp W HS.out)
  obtain ⟨c0, c1, _⟩ := look2 hb
  clear hk hb hS hL
  go_enter Tryd.func32, Tryd.ntmps32
  go_upto_region 1 with fail
  rw [← hW, ← hgs]
  clear hW hgs
  go_wp2_with fail
  refine H1.out.mono ?_
  rintro e w1 ⟨rfl, hk1⟩
  have HK1 := hid_of hk1
  clear c0 c1 H1 hk1
  obtain ⟨c0, c1, _⟩ := look2 (box_kept HK1.out HB.out (fun f => f))
  have H2 := hid_of (cnames gf gp w1 (HS.out.kept HK1.out (fun f => f) (fun f => f)))
  go_wp2_with fail
  refine H2.out.mono ?_
  rintro e w2 ⟨rfl, hk2⟩
  have HK2 := hid_of (HK1.out.trans hk2)
  clear c0 c1 H2 hk2
  obtain ⟨c0, c1, _⟩ := look2 (box_kept HK2.out HB.out (fun f => f))
  obtain ⟨f0, f1, f2, f3, _⟩ := look4 (HS.out.kept HK2.out (fun f => f) (fun f => f)).f
  obtain ⟨W3, hW3⟩ : ∃ W, W = w2.alloc (.cells #[.string ⟨#[109, 97, 105, 110]⟩, .int .i64 0, .slice none 0 0, .slice (some ⟨gp, 0, none⟩) 5 5] 59) := ⟨_, rfl⟩
  have hk3 : Kept (fun _ => False) w2 W3 := by rw [hW3]; exact (Kept.refl _ _).alloc _
  have hb3 : W3.heap[w2.heap.size]? = some (.cells #[.string ⟨#[109, 97, 105, 110]⟩, .int .i64 0, .slice none 0 0, .slice (some ⟨gp, 0, none⟩) 5 5] 59 (0, 0)) := by rw [hW3]; exact heap_alloc_new w2 _
  have HB3 := hid_of hb3
  have HK3 := hid_of (HK2.out.trans hk3)
  clear hk3 hb3
  go_wp2_with fail
  clear c0 c1
  go_loopw [21] (fun iv wr => (iv = .int .i64 0 ∧ wr = w2) ∨ (iv = .int .i64 1 ∧ Hid (Kept (fun _ => False) w wr))) (fun iv _ => 1 - (intOf iv).toNat)
  case atStart => exact .inl ⟨rfl, rfl⟩
  case round =>
    rcases hrel with ⟨rfl, hw⟩ | ⟨rfl, HKE⟩
    · have hw' := hw.symm
      clear hw
      subst hw'
      go_upto_region 10 with fail
      rw [← hW3]
      clear hW3 f0 f1 f2 f3
      obtain ⟨f0, f1, f2, f3, _⟩ := look4 HB3.out
      obtain ⟨c0, c1, _⟩ := look2 (box_kept HK3.out HB.out (fun f => f))
      have H3 := hid_of (cparts gf gp W3 (HS.out.kept HK3.out (fun f => f) (fun f => f)) (HL.out.kept HK3.out (fun f => f)))
      go_wp2_with fail
      refine H3.out.mono ?_
      rintro e w5 ⟨rfl, hk5⟩
      have HK5 : Hid (Kept (fun _ => False) w w5) := (HK.out.trans HK3.out).trans hk5
      clear hk5 f0 f1 f2 f3 c0 c1
      go_wp2
      go_roundw
      case rel => exact .inr ⟨rfl, HK5⟩
      case measure => simp [intOf]
    · clear f0 f1 f2 f3
      go_wp2
      go_ret
      exact ⟨rfl, HKE.out⟩
end Go.Proofs.YtfblffledokjkaaDoor

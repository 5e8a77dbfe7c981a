/-
  The fixed unit: its program.
-/
import Derived.Test.YtfblffledokjkaaDoorUi
namespace Go.Proofs.YtfblffledokjkaaDoor
open Go.RowKit
set_option linter.unusedVariables false
set_option linter.unusedSimpArgs false
set_option maxRecDepth 100000

theorem size25 : (Tryd.prog.info? 25).map (·.size) = some 2 := by kernel_rfl
theorem size32 : (Tryd.prog.info? 32).map (·.size) = some 3 := by kernel_rfl
set_option maxHeartbeats 2000000 in
theorem sum_any (w : World) : Calls Tryd.prog 20 #[] w fun e w' => ∃ gf gp, e = .returned (.agg #[.slice none 0 0, .slice (some ⟨gf, 0, none⟩) 1 1]) ∧ SumU w' gf gp ∧ Kept (fun _ => False) w w' := by
  obtain ⟨W, hW⟩ : ∃ W, W = ((w.alloc (.cells #[.slice none 0 0, .slice (some ⟨w.heap.size + 1 + 1, 0, none⟩) 1 1] 25)).alloc (.cells partsC 88)).alloc (.cells #[.string ⟨#[109, 97, 105, 110]⟩, .int .i64 0, .slice none 0 0, .slice (some ⟨w.heap.size + 1, 0, none⟩) 5 5] 59) := ⟨_, rfl⟩
  obtain ⟨k1, b1, b2, b3⟩ := allocs3 _ _ _ _ _ _ _ _ hW
  have HX := hid_of b1
  have HC := hid_of b2
  have HF := hid_of b3
  have HK := hid_of k1
  clear k1 b1 b2 b3
  unfold partsC at hW
  go_enter Tryd.func20, Tryd.ntmps20
  go_wp2
  rw [← hW]
  refine bodyPost_ret (v := .agg #[.slice none 0 0, .slice (some ⟨w.heap.size + 2, 0, none⟩) 1 1]) ?_ rfl ⟨_, _, rfl, ⟨HF.out, HC.out⟩, HK.out⟩
  exact results_cell_row (by rfl) _ _ w.heap.size 25 _ (0, 0) _ (by rfl) HX.out Tryd.underlying25 rfl size25
theorem own_at {w : World} {b e s n : Nat} {v : Value} {xs : List Value} (h : w.ownsRow b e s v n xs) (hn : 0 < n) : ∃ g c, v = .slice (some ⟨g, 0, none⟩) n c := by
  rcases h.2 with ⟨_, h0⟩ | ⟨g, c, cur, rfl, _⟩
  · omega
  · exact ⟨g, c, rfl⟩
theorem Tryd.info63b : (Tryd.prog.info? 63).map (fun i => (i.zero, i.size, i.bytes)) = some (some (.agg #[.int .i64 0, .int .i64 0, .int .i64 0, .slice none 0 0]), 4, 48) := by kernel_rfl
theorem Tryd.info53b : (Tryd.prog.info? 53).map (fun i => (i.zero, i.size, i.bytes)) = some (some (.slice none 0 0), 1, 24) := by kernel_rfl
theorem push_f {W : World} (x0 x1 x2 x3 : Value) (h0 : x0.oneCell' = true) (h1 : x1.oneCell' = true) (h2 : x2.oneCell' = true) (h3 : x3.oneCell' = true) :
    ∃ v' w', (Builtin.append_ #[30, 30] 30 #[.slice none 0 0, .slice (some ⟨W.heap.size, 0, none⟩) 1 1]).run Tryd.prog (W.alloc (.cells #[x0, x1, x2, x3] 63)) = .ok v' w' ∧ w'.ownsRow W.heap.size 63 4 v' 1 [x0, x1, x2, x3] ∧ Kept (fun _ => False) W w' := by
  obtain ⟨i0, hi, hz0, hz1, hz2⟩ := info_parts Tryd.info63b
  obtain ⟨v', w', hr, h2', h3', h4, _⟩ := append_old (P := Tryd.prog) (W.alloc (.cells #[x0, x1, x2, x3] 63)) W.heap.size 30 30 63 i0 _ 4 48 Tryd.underlying30 hi hz0 hz1 hz2 rfl (by decide) (.slice none 0 0) 0 [] (World.ownsRow_nil _ _ _ _) ⟨W.heap.size, 0, none⟩ 1 1 [x0, x1, x2, x3] (by simp) (fun j u hj => by
    have hb2 := heap_alloc_new W (.cells #[x0, x1, x2, x3] 63)
    rw [Addr.add_lit, Nat.zero_add, cell_block _ _ _ _ _ _ hb2]
    simpa using hj) (fun u hu => by simp at hu; rcases hu with rfl | rfl | rfl | rfl <;> assumption) (by unfold maxLen; omega) (by omega) (by simp)
  refine ⟨v', w', hr, by simpa using h2', ?_⟩
  have hk0 : Kept (fun _ => False) W (W.alloc (.cells #[x0, x1, x2, x3] 63)) := (Kept.refl _ _).alloc _
  exact hk0.grown h3' (fun k hk => by cases hk)
theorem push_l {W : World} (x0 : Value) (h0 : x0.oneCell' = true) :
    ∃ v' w', (Builtin.append_ #[43, 43] 43 #[.slice none 0 0, .slice (some ⟨W.heap.size, 0, none⟩) 1 1]).run Tryd.prog (W.alloc (.cells #[x0] 53)) = .ok v' w' ∧ w'.ownsRow W.heap.size 53 1 v' 1 [x0] ∧ Kept (fun _ => False) W w' := by
  obtain ⟨i0, hi, hz0, hz1, hz2⟩ := info_parts Tryd.info53b
  obtain ⟨v', w', hr, h2', h3', h4, _⟩ := append_old (P := Tryd.prog) (W.alloc (.cells #[x0] 53)) W.heap.size 43 43 53 i0 _ 1 24 Tryd.underlying43 hi hz0 hz1 hz2 rfl (by decide) (.slice none 0 0) 0 [] (World.ownsRow_nil _ _ _ _) ⟨W.heap.size, 0, none⟩ 1 1 [x0] (by simp) (fun j u hj => by
    have hb2 := heap_alloc_new W (.cells #[x0] 53)
    rw [Addr.add_lit, Nat.zero_add, cell_block _ _ _ _ _ _ hb2]
    simpa using hj) (fun u hu => by simp at hu; rcases hu with rfl; assumption) (by unfold maxLen; omega) (by omega) (by simp)
  refine ⟨v', w', hr, by simpa using h2', ?_⟩
  have hk0 : Kept (fun _ => False) W (W.alloc (.cells #[x0] 53)) := (Kept.refl _ _).alloc _
  exact hk0.grown h3' (fun k hk => by cases hk)
theorem set3 (w : World) (g : Nat) (t : TypeId) (a b c x y z : Value) (h : w.heap[g]? = some (.cells #[a, b, c] t (0, 0))) :
    (((w.setCell ⟨g, 0, none⟩ x).setCell ⟨g, 1, none⟩ y).setCell ⟨g, 2, none⟩ z).heap[g]? = some (.cells #[x, y, z] t (0, 0)) ∧ Kept (fun k => k = g) w (((w.setCell ⟨g, 0, none⟩ x).setCell ⟨g, 1, none⟩ y).setCell ⟨g, 2, none⟩ z) := by
  have h1 := set_block _ _ 0 _ _ _ h x
  have h2 := set_block _ _ 1 _ _ _ h1 y
  have h3 := set_block _ _ 2 _ _ _ h2 z
  exact ⟨h3, ((kept_set w g 0 x).trans (kept_set _ g 1 y)).trans (kept_set _ g 2 z)⟩
set_option maxHeartbeats 8000000 in
theorem compile_any (gf gp : Nat) (w : World) (hS : SumU w gf gp) (hL : Laid w) :
    Calls Tryd.prog 9 #[.agg #[.slice none 0 0, .slice (some ⟨gf, 0, none⟩) 1 1], .int .i64 0] w fun e w' => Kept (fun _ => False) w w' ∧ ∃ gF cF gC cC, e = .returned (.tuple #[.agg #[.int .i64 0, .slice none 0 0, .slice (some ⟨gF, 0, none⟩) 1 cF], .int .i64 0]) ∧ w'.cell? ⟨gF, 3, none⟩ = some (.slice (some ⟨gC, 0, none⟩) 6 cC) ∧ w'.cell? ⟨gC, 4, none⟩ = some (.int .i64 20) := by
  obtain ⟨W, hW⟩ : ∃ W, W = (w.alloc (.cells #[.slice none 0 0, .slice (some ⟨gf, 0, none⟩) 1 1] 25)).alloc (.cells #[.int .i64 0, .slice none 0 0, .slice none 0 0] 32) := ⟨_, rfl⟩
  obtain ⟨gs, hgs⟩ : ∃ z, z = w.heap.size := ⟨_, rfl⟩
  obtain ⟨hk, hb, hr4⟩ := allocs2 _ _ _ _ _ _ hW
  rw [← hgs] at hb hr4
  have HB := hid_of hb
  have HR4 := hid_of hr4
  have HK := hid_of hk
  have HS := hid_of (hS.kept hk (fun f => f) (fun f => f))
  have HL := hid_of (hL.kept hk (fun f => f))
  have HGS := hid_of hgs
  have H1 := hid_of (fits_any gf gp 0 W HS.out HL.out (by omega) (by omega))
  obtain ⟨c0, c1, _⟩ := look2 hb
  clear hk hb hS hL hr4
  go_enter Tryd.func9, Tryd.ntmps9
  go_upto_region 1 with fail
  rw [← hW, ← hgs]
  clear hW hgs
  go_wp2_with fail
  refine H1.out.mono ?_
  rintro e w1 ⟨rfl, hk1⟩
  have HK1 := hid_of hk1
  clear c0 c1 H1 hk1
  obtain ⟨c0, c1, _⟩ := look2 (box_kept HK1.out HB.out (fun f => f))
  have H2 := hid_of (bytes_nil w1)
  go_wp2_with fail
  refine H2.out.mono ?_
  rintro e w9 ⟨rfl, hw⟩
  have hw' := hw.symm
  clear hw H2
  subst hw'
  obtain ⟨W3, hW3⟩ : ∃ W, W = w1.alloc (.cells #[.int .i64 0, .slice none 0 0, .slice none 0 0] 32) := ⟨_, rfl⟩
  obtain ⟨g7, hg7⟩ : ∃ z, z = w1.heap.size := ⟨_, rfl⟩
  have hk3 : Kept (fun _ => False) w1 W3 := by rw [hW3]; exact (Kept.refl _ _).alloc _
  have hb3 : W3.heap[g7]? = some (.cells #[.int .i64 0, .slice none 0 0, .slice none 0 0] 32 (0, 0)) := by rw [hW3, hg7]; exact heap_alloc_new w1 _
  have HG7 : Hid (W.heap.size ≤ g7) := by unfold Hid; rw [hg7]; exact HK1.out.size
  have HB3 := hid_of hb3
  have HK3 := hid_of (HK1.out.trans hk3)
  clear hk3 hb3 HK1
  go_upto_region 5 with fail
  rw [← hW3, ← hg7]
  clear hW3 hg7 c0 c1
  obtain ⟨c0, c1, _⟩ := look2 (box_kept HK3.out HB.out (fun f => f))
  have H2 := hid_of (ends_nil W3)
  go_wp2_with fail
  refine H2.out.mono ?_
  rintro e w4 ⟨ge, rfl, _, _, hk4⟩
  have HK4 := hid_of (HK3.out.trans hk4)
  have HP4 := hid_of (box_kept hk4 HB3.out (fun f => f))
  clear c0 c1 H2 hk4 HK3 HB3
  obtain ⟨c0, c1, _⟩ := look2 (box_kept HK4.out HB.out (fun f => f))
  obtain ⟨f0, f1, f2, f3, _⟩ := look4 (HS.out.kept HK4.out (fun f => f) (fun f => f)).f
  obtain ⟨W5, hW5⟩ : ∃ W, W = w4.alloc (.cells #[.string ⟨#[109, 97, 105, 110]⟩, .int .i64 0, .slice none 0 0, .slice (some ⟨gp, 0, none⟩) 5 5] 59) := ⟨_, rfl⟩
  obtain ⟨gx, hgx⟩ : ∃ z, z = w4.heap.size := ⟨_, rfl⟩
  have hk5 : Kept (fun _ => False) w4 W5 := by rw [hW5]; exact (Kept.refl _ _).alloc _
  have hb5 : W5.heap[gx]? = some (.cells #[.string ⟨#[109, 97, 105, 110]⟩, .int .i64 0, .slice none 0 0, .slice (some ⟨gp, 0, none⟩) 5 5] 59 (0, 0)) := by rw [hW5, hgx]; exact heap_alloc_new w4 _
  obtain ⟨W6, hW6⟩ : ∃ W, W = W5.alloc (.cells #[.slice none 0 0] 73) := ⟨_, rfl⟩
  obtain ⟨gc, hgc⟩ : ∃ z, z = W5.heap.size := ⟨_, rfl⟩
  have hk6 : Kept (fun _ => False) W5 W6 := by rw [hW6]; exact (Kept.refl _ _).alloc _
  have hb6 : W6.heap[gc]? = some (.cells #[.slice none 0 0] 73 (0, 0)) := by rw [hW6, hgc]; exact heap_alloc_new W5 _
  have HB6 := hid_of hb6
  have HF6 := hid_of (box_kept hk6 hb5 (fun f => f))
  have HP6 := hid_of (box_kept hk6 (box_kept hk5 HP4.out (fun f => f)) (fun f => f))
  have HK6 := hid_of ((HK4.out.trans hk5).trans hk6)
  have hs7 : g7 < gx := by have h9 := (Array.getElem?_eq_some_iff.1 HP4.out).1; omega
  have hsx : gx < gc := by have h9 := (Array.getElem?_eq_some_iff.1 hb5).1; omega
  have HG6 : Hid (gc ≤ W6.heap.size) := by have := (Array.getElem?_eq_some_iff.1 hb6).1; unfold Hid; omega
  clear hk5 hb5 hk6 hb6
  go_wp2_with fail
  clear c0 c1
  go_loopw [30] (fun iv wr => (iv = .int .i64 0 ∧ wr = w4) ∨ (iv = .int .i64 1 ∧ Hid (∃ gF cF gC cC, wr.heap[g7]? = some (.cells #[.int .i64 0, .slice none 0 0, .slice (some ⟨gF, 0, none⟩) 1 cF] 32 (0, 0)) ∧ wr.cell? ⟨gF, 3, none⟩ = some (.slice (some ⟨gC, 0, none⟩) 6 cC) ∧ wr.cell? ⟨gC, 4, none⟩ = some (.int .i64 20) ∧ g7 < gF ∧ g7 < gC) ∧ Hid (Kept (fun _ => False) W wr))) (fun iv _ => 1 - (intOf iv).toNat)
  case atStart => exact .inl ⟨rfl, rfl⟩
  case round =>
    rcases hrel with ⟨rfl, hw⟩ | ⟨rfl, HFIN, HKF⟩
    · have hw' := hw.symm
      clear hw
      subst hw'
      go_upto_region 9 with fail
      rw [← hW5, ← hgx]
      clear hW5 hgx f0 f1 f2 f3
      go_upto_region 10 with fail
      rw [← hW6, ← hgc]
      clear hW6 hgc
      obtain ⟨f0, f1, f2, f3, _⟩ := look4 HF6.out
      have hS6 := HS.out.kept HK6.out (fun f => f) (fun f => f)
      have hgf : gf < gc := by have h9 := (Array.getElem?_eq_some_iff.1 HS.out.f).1; have h8 := HG7.out; omega
      have hgp : gp < gc := by have h9 := (Array.getElem?_eq_some_iff.1 HS.out.p).1; have h8 := HG7.out; omega
      have HWR := hid_of (write_any 71 gc (sh_c gc gc) gf gp (some ⟨ge, 0, none⟩) 1 1 W6 ⟨Nat.le_refl _, _, HB6.out, World.ownsRow_nil _ _ _ _⟩ (fun w' hk => ⟨Nat.le_refl _, _, box_kept hk HB6.out (fun f => f), World.ownsRow_nil _ _ _ _⟩) hS6 hgf hgp HG6.out)
      clear hS6
      go_wp2_with fail
      refine HWR.out.mono ?_
      rintro e w7 ⟨rfl, ⟨_, v7, hv7, ho7⟩, hk7, _⟩
      obtain ⟨gC, cC, e7⟩ := own_at ho7 (by decide)
      have e7' : v7 = .slice (some ⟨gC, 0, none⟩) 6 cC := e7
      subst e7'
      have hoC := ho7.lt gC rfl
      have hc4 : w7.cell? ⟨gC, 4, none⟩ = some (.int .i64 20) := by
        have h9 := ho7.cells rfl 4 (.int .i64 20) rfl
        rwa [Addr.add_lit, Nat.zero_add] at h9
      have HC4 := hid_of hc4
      have HV7 := hid_of hv7
      have HF7 := hid_of (box_kept hk7 HF6.out (by omega))
      have HP7 := hid_of (box_kept hk7 HP6.out (by omega))
      have HK7 : Hid (Kept (fun _ => False) W w7) := HK6.out.step hk7 (fun i hi e => by have h9 := HG7.out; omega)
      clear hk7 f0 f1 f2 f3 HWR hv7 ho7 hc4 HF6 HP6 HB6
      go_upto_region 11 with fail
      refine wp_region_held_drew (S := fun w' => Kept (fun q => q = g7) w7 w') (by kernel_rfl) ((Kept.refl _ _).drew) (fun hHeld => ?_)
      have hKd : Kept (fun _ => False) w7 w7.drew := (Kept.refl _ _).drew
      generalize w7.drew = wd at *
      have HSX : Hid (∀ w', Kept (fun q => q = g7) w7 w' → w'.cell? ⟨gx, 1, none⟩ = some (.int .i64 0) ∧ w'.cell? ⟨gx, 2, none⟩ = some (.slice none 0 0) ∧ w'.cell? ⟨gc, 0, none⟩ = some (.slice (some ⟨gC, 0, none⟩) 6 cC)) := fun w' hw => by
        obtain ⟨_, f1, f2, _⟩ := look4 (box_kept hw HF7.out (by omega))
        exact ⟨f1, f2, cell_block _ _ 0 _ _ _ (box_kept hw HV7.out (by omega))⟩
      have hgd := box_kept hKd HP7.out (fun f => f)
      have cg : wd.cell? ⟨g7, 2, none⟩ = some (.slice none 0 0) := cell_block _ _ 2 _ _ _ hgd
      obtain ⟨v9, w9, hr9, ho9, hk9⟩ := push_f (W := wd) (.int .i64 0) (.int .i64 0) (.int .i64 1) (.slice (some ⟨gC, 0, none⟩) 6 cC) rfl rfl rfl rfl
      obtain ⟨gF, cF, e9⟩ := own_at ho9 (by decide)
      subst e9
      have hoF := ho9.lt gF rfl
      have hszd : w7.heap.size ≤ wd.heap.size := hKd.size
      have hg7w : g7 < w7.heap.size := (Array.getElem?_eq_some_iff.1 HP7.out).1
      have hg9 := box_kept hk9 hgd (fun f => f)
      have f9 := frozen_block _ g7 2 _ _ hg9
      have c9 : w9.cell? ⟨g7, 2, none⟩ = some (.slice none 0 0) := cell_block _ _ 2 _ _ _ hg9
      have hF3 : w9.cell? ⟨gF, 3, none⟩ = some (.slice (some ⟨gC, 0, none⟩) 6 cC) := by
        have h9 := ho9.cells rfl 3 (.slice (some ⟨gC, 0, none⟩) 6 cC) rfl
        rwa [Addr.add_lit, Nat.zero_add] at h9
      have hks := kept_set w9 g7 2 (.slice (some ⟨gF, 0, none⟩) 1 cF)
      have hgE := set_block w9 g7 2 _ _ _ hg9 (.slice (some ⟨gF, 0, none⟩) 1 cF)
      have hc9 := hk9.cell (hKd.cell HC4.out (fun f => f)) (fun f => f)
      have HFIN : Hid (∃ hF dF hC dC, (w9.setCell ⟨g7, 2, none⟩ (.slice (some ⟨gF, 0, none⟩) 1 cF)).heap[g7]? = some (.cells #[.int .i64 0, .slice none 0 0, .slice (some ⟨hF, 0, none⟩) 1 dF] 32 (0, 0)) ∧ (w9.setCell ⟨g7, 2, none⟩ (.slice (some ⟨gF, 0, none⟩) 1 cF)).cell? ⟨hF, 3, none⟩ = some (.slice (some ⟨hC, 0, none⟩) 6 dC) ∧ (w9.setCell ⟨g7, 2, none⟩ (.slice (some ⟨gF, 0, none⟩) 1 cF)).cell? ⟨hC, 4, none⟩ = some (.int .i64 20) ∧ g7 < hF ∧ g7 < hC) :=
        ⟨gF, cF, gC, cC, hgE, hks.cell hF3 (by show ¬ gF = g7; omega), hks.cell hc9 (by show ¬ gC = g7; omega), by omega, by omega⟩
      have HR9 := hid_of hr9
      have HK9 : Hid (Kept (fun q => q = g7) w7 w9) := ((hKd.trans hk9).mono (fun _ _ f => f.elim))
      have HKE : Hid (Kept (fun q => q = g7) w7 (w9.setCell ⟨g7, 2, none⟩ (.slice (some ⟨gF, 0, none⟩) 1 cF))) := HK9.out.trans hks
      have HKF : Hid (Kept (fun _ => False) W (w9.setCell ⟨g7, 2, none⟩ (.slice (some ⟨gF, 0, none⟩) 1 cF))) := HK7.out.step HKE.out (fun i hi e => by have h9 := HG7.out; omega)
      have cg2 : (wd.alloc (.cells #[.int .i64 0, .int .i64 0, .int .i64 1, .slice (some ⟨gC, 0, none⟩) 6 cC] 63)).cell? ⟨g7, 2, none⟩ = some (.slice none 0 0) := ((Kept.refl (fun _ => False) wd).alloc _).cell cg (fun f => f)
      clear hk9 hg9 hr9 ho9 hgd hF3 hks hgE hc9 hoF hoC hszd hg7w hKd
      iterate 1
        refine tkn (v := ?_) 0 rfl ?_ ?_; rotate_left 1
        · intro w hSw; go_simp; try with_reducible rfl
        try simp only [Act.put, tdy]
      iterate 10
        refine tkn (v := ?_) 2 rfl ?_ ?_; rotate_left 1
        · intro w hSw; obtain ⟨a0, a1, a2⟩ := HSX.out w hSw; go_simp; try with_reducible rfl
        try simp only [Act.put, tdy]
      refine wpAnyH_ready (rs := [1, 12]) (by kernel_rfl) (by simp) ?_
      refine AllReadyH.cons rfl (fun K hK => ?_) (AllReadyH.cons rfl (fun K hK => ?_) AllReadyH.nil)
      · go_simp
        refine hK.out _ _ hHeld (fun hHeld => ?_)
        clear hK K cg cg2
        try simp only [Act.put, tdy]
        refine wpAnyH_ready (rs := [12]) (by kernel_rfl) (by simp) ?_
        refine AllReadyH.cons rfl (fun K hK => ?_) AllReadyH.nil
        go_simp
        refine hK.out _ _ (hHeld.alloc _) (fun hHeld => ?_)
        clear hK K
        try simp only [Act.put, tdy]
        refine wpAnyH_ready (rs := [13]) (by kernel_rfl) (by simp) ?_
        refine AllReadyH.cons rfl (fun K hK => ?_) AllReadyH.nil
        refine step_app rfl (.tmp 43) (.tmp 54) 30 30 rfl _ _ rfl rfl (.slice (some ⟨gF, 0, none⟩) 1 cF) w9 HR9.out ?_
        refine hK.out _ _ HK9.out (fun hHeld => ?_)
        clear hK K
        try simp only [Act.put, tdy]
        iterate 1
          refine tkn (v := ?_) 14 rfl ?_ ?_; rotate_left 1
          · intro w hSw; go_simp; try with_reducible rfl
          try simp only [Act.put, tdy]
        refine wpAnyH_ready (rs := [15]) (by kernel_rfl) (by simp) ?_
        refine AllReadyH.cons rfl (fun K hK => ?_) AllReadyH.nil
        go_simp
        refine hK.out _ _ HKE.out (fun hHeld => ?_)
        clear hK K
        try simp only [Act.put, tdy]
        refine wpAnyH_done (by kernel_rfl) ?_ _
        clear hHeld
        go_wp2
        go_roundw
        case rel => exact .inr ⟨rfl, HFIN, HKF⟩
        case measure => simp [intOf]
      · go_simp
        refine hK.out _ _ (hHeld.alloc _) (fun hHeld => ?_)
        clear hK K cg
        try simp only [Act.put, tdy]
        refine wpAnyH_ready (rs := [1]) (by kernel_rfl) (by simp) ?_
        refine AllReadyH.cons rfl (fun K hK => ?_) AllReadyH.nil
        go_simp
        refine hK.out _ _ hHeld (fun hHeld => ?_)
        clear hK K cg2
        try simp only [Act.put, tdy]
        refine wpAnyH_ready (rs := [13]) (by kernel_rfl) (by simp) ?_
        refine AllReadyH.cons rfl (fun K hK => ?_) AllReadyH.nil
        refine step_app rfl (.tmp 43) (.tmp 54) 30 30 rfl _ _ rfl rfl (.slice (some ⟨gF, 0, none⟩) 1 cF) w9 HR9.out ?_
        refine hK.out _ _ HK9.out (fun hHeld => ?_)
        clear hK K
        try simp only [Act.put, tdy]
        iterate 1
          refine tkn (v := ?_) 14 rfl ?_ ?_; rotate_left 1
          · intro w hSw; go_simp; try with_reducible rfl
          try simp only [Act.put, tdy]
        refine wpAnyH_ready (rs := [15]) (by kernel_rfl) (by simp) ?_
        refine AllReadyH.cons rfl (fun K hK => ?_) AllReadyH.nil
        go_simp
        refine hK.out _ _ HKE.out (fun hHeld => ?_)
        clear hK K
        try simp only [Act.put, tdy]
        refine wpAnyH_done (by kernel_rfl) ?_ _
        clear hHeld
        go_wp2
        go_roundw
        case rel => exact .inr ⟨rfl, HFIN, HKF⟩
        case measure => simp [intOf]
    · clear f0 f1 f2 f3
      obtain ⟨gF, cF, gC, cC, h7, hF3, hC4, lF, lC⟩ := HFIN.out
      have hr4 := box_kept HKF.out HR4.out (fun f => f)
      obtain ⟨p0, p1, p2, _⟩ := look3 h7
      obtain ⟨r0, r1, r2, s0, s1, s2⟩ := look3 hr4
      obtain ⟨hr5, hk5⟩ := set3 _ _ _ _ _ _ (.int .i64 0) (.slice none 0 0) (.slice (some ⟨gF, 0, none⟩) 1 cF) hr4
      have hgl : gs + 1 < g7 := by have h9 := HG7.out; have h8 := (Array.getElem?_eq_some_iff.1 HR4.out).1; omega
      have HR5 := hid_of hr5
      have HE : Hid (Kept (fun _ => False) w _) := (HK.out.trans HKF.out).step hk5 (fun i hi e => by have h9 := HGS.out; omega)
      have HF3 := hid_of (hk5.cell hF3 (by show ¬ gF = gs + 1; omega))
      have HC4 := hid_of (hk5.cell hC4 (by show ¬ gC = gs + 1; omega))
      clear hr5 hk5 hF3 hC4 h7 hr4
      go_wp2
      refine bodyPost_ret (v := .tuple #[.agg #[.int .i64 0, .slice none 0 0, .slice (some ⟨gF, 0, none⟩) 1 cF], .int .i64 0]) ?_ rfl ⟨HE.out, gF, cF, gC, cC, rfl, HF3.out, HC4.out⟩
      rw [results_cell_tmp (by rfl)]
      simp [asAddr, Result.andThen, run_loadVar_row _ (gs + 1) 32 32 _ (0, 0) _ HR5.out Tryd.underlying32 rfl size32]
end Go.Proofs.YtfblffledokjkaaDoor

/-
  An instruction is laid behind the others.
-/
import Derived.Test.YtkilngknklpadaaGreatDoorAh
namespace Go.Proofs.YtkilngknklpadaaGreatDoor
open Go.RowKit
set_option linter.unusedVariables false
set_option linter.unusedSimpArgs false
set_option maxRecDepth 100000

set_option maxHeartbeats 16000000 in
theorem add_ins (r : Nat) (ln x0 x1 a b d : Int) (w0 w : World) (h : RdB w0 w r a b d (.slice none 0 0)) :
    Calls Tryz.prog 59 #[.pointer (some ⟨r, 0, none⟩), .int .i64 ln, .agg #[.int .i64 x0, .int .i64 x1], .string ⟨#[]⟩] w fun e w' => (∃ v, e = .returned v) ∧ ∃ cv, RdB w0 w' r a b d cv ∧ w'.ownsRow w0.heap.size 51 2 cv 1 [.int .i64 x0, .int .i64 x1] ∧ Oth w w' := by
  have hka : Kept (fun _ => False) w (w.alloc (.cells #[.int .i64 x0, .int .i64 x1] 51)) := (Kept.refl _ _).alloc _
  obtain ⟨fv, lv, mv, hb, hf⟩ := h.ex
  have HB := hid_of (box_kept hka hb (fun f => f))
  have HF := hid_of (hka.ownsRow hf (fun _ _ f => f))
  have HK := hid_of (h.kept.trans hka)
  have HX := hid_of (heap_alloc_new w (.cells #[.int .i64 x0, .int .i64 x1] 51))
  have HLO := hid_of h.lo
  have HOA := hid_of hka
  have HXG : Hid (w0.heap.size ≤ w.heap.size) := h.kept.size
  have HNX : Hid (fv.ownBlock ≠ some w.heap.size) := fun e => by have := (hf.lt _ e).2; omega
  obtain ⟨gf, cf, hv⟩ := own_at hf (by decide)
  subst hv
  clear hka hb hf h
  go_enter Tryz.func59, Tryz.ntmps59
  go_upto_region 1 with fail
  generalize w.alloc (.cells #[.int .i64 x0, .int .i64 x1] 51) = w1 at *
  generalize w.heap.size = gx at *
  have hKwd : Kept (fun _ => False) w1 w1.drew := (Kept.refl _ _).drew
  have HSM : Hid (∀ w', Kept (fun _ => False) w1 w' → w'.cell? ⟨r, 2, none⟩ = some (.slice (some ⟨gf, 0, none⟩) 1 cf)) := fun w' hw => hw.cell (cell_block _ _ 2 _ _ _ HB.out) (fun f => f)
  refine wp_region_held_drew (S := fun w' => Kept (fun _ => False) w1 w') (by kernel_rfl) ((Kept.refl _ _).drew) (fun hHeld => ?_)
  generalize w1.drew = wd at *
  have HL := hid_of (last_one r _ _ _ _ _ _ (some ⟨gf, 0, none⟩) cf wd (box_kept hKwd HB.out (fun f => f)))
  iterate 6
    refine tkn (v := ?_) 0 rfl ?_ ?_; rotate_left 1
    · intro w hSw; have s0 := HSM.out w hSw; go_simp; try with_reducible rfl
    try simp only [Act.put, tdy]
  refine wpAnyH_ready (rs := [6]) (by kernel_rfl) (by simp) ?_
  refine AllReadyH.cons rfl (fun K hK => ?_) AllReadyH.nil
  go_simp
  refine HL.out.mono ?_
  rintro e w4 ⟨rfl, hw⟩
  have hw := hw.symm
  subst hw
  refine hK.out _ _ hHeld (fun hHeld => ?_)
  clear hK K
  try simp only [Act.put, tdy]
  iterate 1
    refine tkn (v := ?_) 7 rfl ?_ ?_; rotate_left 1
    · intro w hSw; go_simp; try with_reducible rfl
    try simp only [Act.put, tdy]
  refine wpAnyH_ready (rs := [8]) (by kernel_rfl) (by simp) ?_
  refine AllReadyH.cons rfl (fun K hK => ?_) AllReadyH.nil
  go_simp
  refine hK.out _ _ hHeld (fun hHeld => ?_)
  clear hK K
  try simp only [Act.put, tdy]
  refine wpAnyH_done (by kernel_rfl) ?_ _
  have HB2 := hid_of (box_kept hKwd HB.out (fun f => f))
  have HF2 := hid_of (hKwd.ownsRow HF.out (fun _ _ f => f))
  have HK2 := hid_of (HK.out.trans hKwd)
  have HO2 := hid_of (HOA.out.trans hKwd)
  have HX2 := hid_of (box_kept hKwd HX.out (fun f => f))
  clear hHeld HL HSM hKwd HB HF HK HX
  go_upto_region 7 with fail
  have hKwe : Kept (fun _ => False) wd wd.drew := (Kept.refl _ _).drew
  have HGX : Hid (¬ gx = gf) := fun e => HNX.out (by rw [e]; rfl)
  have HSM : Hid (∀ w', Kept (fun q => q = gf) wd w' → w'.cell? ⟨gx, 0, none⟩ = some (.int .i64 x0) ∧ w'.cell? ⟨gx, 1, none⟩ = some (.int .i64 x1)) := fun w' hw =>
    ⟨hw.cell (cell_block _ _ 0 _ _ _ HX2.out) HGX.out, hw.cell (cell_block _ _ 1 _ _ _ HX2.out) HGX.out⟩
  refine wp_region_held_drew (S := fun w' => Kept (fun q => q = gf) wd w') (by kernel_rfl) ((Kept.refl _ _).drew) (fun hHeld => ?_)
  generalize wd.drew = we at *
  obtain ⟨v', w5, hr5, ho, hk0, hk1, hn⟩ := push_ins (World.ownsRow_nil we w0.heap.size 51 2) (.int .i64 x0) (.int .i64 x1) rfl rfl (HK2.out.trans hKwe) (by omega)
  have hk1' : Kept (fun _ => False) we w5 := hk1.mono (fun q _ e => by cases e)
  have hfd := hKwe.ownsRow HF2.out (fun _ _ f => f)
  have l0 : we.cell? ⟨gf, 3, none⟩ = some (.slice none 0 0) := by
    have := hfd.cells (g := gf) rfl 3 _ rfl
    rw [Addr.add_lit, Nat.zero_add] at this
    exact this
  have hf5 := hk1'.ownsRow hfd (fun _ _ f => f)
  have HKS5 := hid_of ((hKwe.trans hk1').mono (T := fun q => q = gf) (fun _ _ f => f.elim))
  have hs := kept_set w5 gf 3 v'
  have HKS6 := hid_of (HKS5.out.setCell (p := ⟨gf, 3, none⟩) (.inr rfl) v')
  have HG1 : Hid (w5.cell? ⟨gf, 3, none⟩ = some (.slice none 0 0) ∧ w5.frozen? ⟨gf, 3, none⟩ = false) := by
    have := hf5.cells (g := gf) rfl 3 _ rfl
    rw [Addr.add_lit, Nat.zero_add] at this
    exact ⟨this, hf5.frozenAt 3⟩
  have hb5 := box_kept (hKwe.trans hk1') HB2.out (fun f => f)
  have hgl : w0.heap.size ≤ gf := (hf5.lt gf rfl).1
  have hrf : ¬ r = gf := fun e => own_box2 hf5 hb5 (by decide) (by rw [e]; rfl)
  have HF6 := hid_of ((hf5.stored 3 v').1)
  have HO6 := hid_of (hs.ownsRow ho (fun q hq e => own_two hf5 ho (by decide) gf rfl (by rw [hq, e])))
  have HB6 := hid_of (box_kept hs hb5 hrf)
  have HK6 := hid_of (hk0.setCell (p := ⟨gf, 3, none⟩) (.inl hgl) v')
  have HOO := hid_of ((HO2.out.trans (hKwe.trans hk1')).oth.trans (hs.othS (fun q e cs t hq => by
    by_cases h54 : t = 54
    · exact .inr h54
    · exact absurd (by rw [e]; rfl) (own_box2 hf5 hq h54))))
  obtain ⟨a2, c2, hv2⟩ := ownsRow_shape ho
  obtain ⟨n2, hn2⟩ : ∃ n, n = 0 + 1 := ⟨_, rfl⟩
  rw [← hn2] at hv2
  subst hv2
  have HR := hid_of hr5
  clear hr5 ho hk0 hk1 hk1' hn hs hn2 hfd hf5 hb5 hgl hrf
  iterate 4
    refine tkn (v := ?_) 0 rfl ?_ ?_; rotate_left 1
    · intro w hSw; go_simp; try with_reducible rfl
    try simp only [Act.put, tdy]
  iterate 1
    refine tkn (v := ?_) 5 rfl ?_ ?_; rotate_left 1
    · intro w hSw; obtain ⟨s0, s1⟩ := HSM.out w hSw; go_simp; try with_reducible rfl
    try simp only [Act.put, tdy]
  refine (fun (hfin : ?G) => ?main) ?fin
  case main =>
    refine wpAnyH_ready (rs := [4, 6]) (by kernel_rfl) (by simp) ?_
    refine AllReadyH.cons rfl (fun K hK => ?_) (AllReadyH.cons rfl (fun K hK => ?_) AllReadyH.nil)
    · have l1 := l0
      go_simp
      refine hK.out _ _ hHeld (fun hHeld => ?_)
      clear hK K
      try simp only [Act.put, tdy]
      clear l1
      refine wpAnyH_ready (rs := [6]) (by kernel_rfl) (by simp) ?_
      refine AllReadyH.cons rfl (fun K hK => ?_) AllReadyH.nil
      go_simp
      refine hK.out _ _ (hHeld.alloc _) (fun hHeld => ?_)
      clear hK K
      try simp only [Act.put, tdy]
      refine wpAnyH_ready (rs := [7]) (by kernel_rfl) (by simp) ?_
      refine AllReadyH.cons rfl (fun K hK => ?_) AllReadyH.nil
      refine step_app rfl (.tmp 60) (.tmp 62) 52 52 rfl _ _ rfl rfl (.slice a2 n2 c2) w5 HR.out ?_
      refine hK.out _ _ HKS5.out (fun hHeld => ?_)
      clear hK K
      try simp only [Act.put, tdy]
      iterate 2
        refine tkn (v := ?_) 8 rfl ?_ ?_; rotate_left 1
        · intro w hSw; go_simp; try with_reducible rfl
        try simp only [Act.put, tdy]
      obtain ⟨g1, gf1⟩ := HG1.out
      refine wpAnyH_ready (rs := [10]) (by kernel_rfl) (by simp) ?_
      refine AllReadyH.cons rfl (fun K hK => ?_) AllReadyH.nil
      go_simp
      refine hK.out _ _ HKS6.out (fun hHeld => ?_)
      clear hK K
      try simp only [Act.put, tdy]
      refine wpAnyH_done (by kernel_rfl) ?_ _
      exact hfin
    · go_simp
      refine hK.out _ _ (hHeld.alloc _) (fun hHeld => ?_)
      clear hK K
      try simp only [Act.put, tdy]
      have l1 : (we.alloc (.cells #[.int .i64 x0, .int .i64 x1] 51)).cell? ⟨gf, 3, none⟩ = some (.slice none 0 0) := ((Kept.refl (fun _ => False) we).alloc _).cell l0 (fun f => f)
      refine wpAnyH_ready (rs := [4]) (by kernel_rfl) (by simp) ?_
      refine AllReadyH.cons rfl (fun K hK => ?_) AllReadyH.nil
      go_simp
      refine hK.out _ _ hHeld (fun hHeld => ?_)
      clear hK K
      try simp only [Act.put, tdy]
      clear l1
      refine wpAnyH_ready (rs := [7]) (by kernel_rfl) (by simp) ?_
      refine AllReadyH.cons rfl (fun K hK => ?_) AllReadyH.nil
      refine step_app rfl (.tmp 60) (.tmp 62) 52 52 rfl _ _ rfl rfl (.slice a2 n2 c2) w5 HR.out ?_
      refine hK.out _ _ HKS5.out (fun hHeld => ?_)
      clear hK K
      try simp only [Act.put, tdy]
      iterate 2
        refine tkn (v := ?_) 8 rfl ?_ ?_; rotate_left 1
        · intro w hSw; go_simp; try with_reducible rfl
        try simp only [Act.put, tdy]
      obtain ⟨g1, gf1⟩ := HG1.out
      refine wpAnyH_ready (rs := [10]) (by kernel_rfl) (by simp) ?_
      refine AllReadyH.cons rfl (fun K hK => ?_) AllReadyH.nil
      go_simp
      refine hK.out _ _ HKS6.out (fun hHeld => ?_)
      clear hK K
      try simp only [Act.put, tdy]
      refine wpAnyH_done (by kernel_rfl) ?_ _
      exact hfin
  refine bodyPost_end (results_none rfl _ _ _) rfl ?_
  exact ⟨⟨_, rfl⟩, _, ⟨⟨_, _, _, HB6.out, HF6.out⟩, HK6.out, HLO.out⟩, HO6.out, HOO.out⟩
end Go.Proofs.YtkilngknklpadaaGreatDoor

/-
  The law AsmErrors, line 0.
-/
import Derived.Test.YtkilngknklpadaaGreatDoorAv
namespace Go.Proofs.YtkilngknklpadaaGreatDoor
open Go.RowKit
set_option linter.unusedVariables false
set_option linter.unusedSimpArgs false
set_option maxRecDepth 100000

set_option maxHeartbeats 16000000 in
theorem errors_zero (hc1 : CutR ln1B qs1) (hc2 : CutR ln2B qs2) (e li : Int) (hi1 : -9223372036854775808 ≤ li) (hi2 : li ≤ 9223372036854775807) (w : World) (hG : Gl w) :
    Calls Tryz.prog 3 #[.int .i64 0, .int .i64 e, .int .i64 li] w fun x w' => x = .returned (.bool true) ∧ Kept (fun _ => False) w w' := by
  obtain ⟨f, hf, hf0, h6⟩ := word_fun
  have HN := hid_of (known_any hc1 hc2 w hG)
  have HG := hid_of hG
  clear hc1 hc2 hG
  have hl1 : (-9223372036854775808 : Int) ≤ 0 := by decide
  have hl2 : (0 : Int) ≤ 9223372036854775807 := by decide
  go_enter Tryz.func3, Tryz.ntmps3
  go_wp2_with fail
  refine HN.out.mono ?_
  rintro x w1 ⟨rfl, hk⟩
  have HK := hid_of hk
  clear hk HN
  have HK2 := HK
  clear HK
  go_upto_region 9 with fail
  have HB := hid_of (boxes w1 0 e li)
  have HK9 := hid_of ((((HK2.out.alloc (.cells #[.int .i64 0, .iface 25 (.int .i64 e)] 29)).alloc (.cells #[.int .i64 0, .nilIface] 29)).alloc (.cells #[.int .i64 li, .iface 25 (.int .i64 e)] 29)).alloc (.cells #[.int .i64 0, .iface 24 (.pointer (some ⟨w1.heap.size + 1 + 1, 0, none⟩))] 29))
  clear HK2
  generalize (((w1.alloc (.cells #[.int .i64 0, .iface 25 (.int .i64 e)] 29)).alloc (.cells #[.int .i64 0, .nilIface] 29)).alloc (.cells #[.int .i64 li, .iface 25 (.int .i64 e)] 29)).alloc (.cells #[.int .i64 0, .iface 24 (.pointer (some ⟨w1.heap.size + 1 + 1, 0, none⟩))] 29) = w9 at *
  generalize w1.heap.size + 1 + 1 + 1 = gc at *
  generalize w1.heap.size + 1 + 1 = gi at *
  generalize w1.heap.size + 1 = gb at *
  generalize w1.heap.size = ga at *
  have HG9 := hid_of (HG.out.kept0 HK9.out)
  have HW := hid_of (h6 e w9)
  go_wp2_with fail
  refine HW.out.mono ?_
  rintro x w10 ⟨rfl, hw⟩
  have hw := hw.symm
  subst hw
  clear HW
  by_cases hi : li = 0
  · subst hi
    have HB11 := HB
    have HG11 := HG9
    have HK11 := HK9
    clear HB HG9 HK9
    have HU := hid_of (unwrap_any ga 0 _ w9 (.inr ⟨_, _, rfl⟩) HB11.out.a1)
    go_wp2_with fail
    refine HU.out.mono ?_
    rintro x w12 ⟨rfl, hw⟩
    have hw := hw.symm
    subst hw
    clear HU
    have hta := ta_num w9 e
    go_upto_region 13 with fail
    clear hta
    have hze := hf e
    have hzl := lnS_size 0 hl1 hl2
    have hzi := lnS_size 0 (by decide) (by decide)
    have hq1 : ¬ (9223372036854775807 < (f e).size) := by omega
    skip
    clear hzi hzl hze
    refine wp_region_held_drew (S := fun w' => Kept (fun _ => False) w9 w') (by kernel_rfl) ((Kept.refl _ _).drew) (fun hHeld => ?_)
    have HSM : Hid (∀ w', Kept (fun _ => False) w9 w' → Bx w' ga gb gi gc 0 e 0 ∧ Gl w') := fun w' hw => ⟨HB11.out.kept hw, HG11.out.kept0 hw⟩
    generalize w9.drew = wd at *
    clear HB11 HG11
    iterate 1
      refine tkn (v := ?_) 0 rfl ?_ ?_; rotate_left 1
      · intro w hSw; go_simp; try with_reducible rfl
      try simp only [Act.put, tdy]
    iterate 2
      refine tkn (v := ?_) 2 rfl ?_ ?_; rotate_left 1
      · intro w hSw; go_simp; try with_reducible rfl
      try simp only [Act.put, tdy]
    refine wpAnyH_ready (rs := [1]) (by kernel_rfl) (by simp) ?_
    refine AllReadyH.cons rfl (fun K hK => ?_) AllReadyH.nil
    go_simp
    obtain ⟨hBn, hGn⟩ := HSM.out _ hHeld
    refine (error_num ga 0 e _ hBn.a0 hBn.a1 f hf h6 hGn hl1 hl2).mono ?_
    rintro x wn ⟨rfl, hkn⟩
    refine hK.out _ _ (hHeld.trans hkn) (fun hHeld => ?_)
    clear hK K
    try clear hBn hGn
    try clear hkn
    try simp only [Act.put, tdy]
    try simp only [lnS_no, ba_nil]
    refine wpAnyH_ready (rs := [4]) (by kernel_rfl) (by simp) ?_
    refine AllReadyH.cons rfl (fun K hK => ?_) AllReadyH.nil
    go_simp
    obtain ⟨hBn, hGn⟩ := HSM.out _ hHeld
    refine (h6 e _).mono ?_
    rintro x wn ⟨rfl, hw⟩
    have hw := hw.symm
    subst hw
    refine hK.out _ _ hHeld (fun hHeld => ?_)
    clear hK K
    try clear hBn hGn
    try clear hkn
    try simp only [Act.put, tdy]
    try simp only [lnS_no, ba_nil]
    iterate 1
      refine tkn (v := ?_) 5 rfl ?_ ?_; rotate_left 1
      · intro w hSw; go_simp; try with_reducible rfl
      try simp only [Act.put, tdy]
    try simp only [ba_nil]
    iterate 2
      refine tkn (v := ?_) 6 rfl ?_ ?_; rotate_left 1
      · intro w hSw; have s9 := eqS w (f e); go_simp; try with_reducible rfl
      try simp only [Act.put, tdy]
    iterate 1
      refine tkn (v := ?_) 8 rfl ?_ ?_; rotate_left 1
      · intro w hSw; go_simp; try with_reducible rfl
      try simp only [Act.put, tdy]
    iterate 2
      refine tkn (v := ?_) 10 rfl ?_ ?_; rotate_left 1
      · intro w hSw; go_simp; try with_reducible rfl
      try simp only [Act.put, tdy]
    try simp only [ba_nil]
    refine wpAnyH_ready (rs := [9]) (by kernel_rfl) (by simp) ?_
    refine AllReadyH.cons rfl (fun K hK => ?_) AllReadyH.nil
    go_simp
    obtain ⟨hBn, hGn⟩ := HSM.out _ hHeld
    refine (error_no gb 0 _ hBn.b0 hBn.b1 f hf h6 hGn hl1 hl2).mono ?_
    rintro x wn ⟨rfl, hkn⟩
    refine hK.out _ _ (hHeld.trans hkn) (fun hHeld => ?_)
    clear hK K
    try clear hBn hGn
    try clear hkn
    try simp only [Act.put, tdy]
    try simp only [lnS_no, ba_nil]
    simp only [hf0]
    iterate 3
      refine tkn (v := ?_) 12 rfl ?_ ?_; rotate_left 1
      · intro w hSw; have s9 := eqS w (⟨#[111, 107]⟩); go_simp; try with_reducible rfl
      try simp only [Act.put, tdy]
    iterate 1
      refine tkn (v := ?_) 15 rfl ?_ ?_; rotate_left 1
      · intro w hSw; go_simp; try with_reducible rfl
      try simp only [Act.put, tdy]
    iterate 3
      refine tkn (v := ?_) 17 rfl ?_ ?_; rotate_left 1
      · intro w hSw; go_simp; try with_reducible rfl
      try simp only [Act.put, tdy]
    try simp only [ba_nil]
    refine wpAnyH_ready (rs := [16]) (by kernel_rfl) (by simp) ?_
    refine AllReadyH.cons rfl (fun K hK => ?_) AllReadyH.nil
    go_simp
    obtain ⟨hBn, hGn⟩ := HSM.out _ hHeld
    refine (error_line gc 0 gi (lnS 0 ++ f e) _ hBn.c0 hBn.c1 f hf h6 hGn hl1 hl2 (by have := hf e; have := lnS_size 0 (by omega) (by omega); rw [ByteArray.size_append]; omega) (error_num gi 0 e _ hBn.i0 hBn.i1 f hf h6 hGn (by decide) (by decide))).mono ?_
    rintro x wn ⟨rfl, hkn⟩
    refine hK.out _ _ (hHeld.trans hkn) (fun hHeld => ?_)
    clear hK K
    try clear hBn hGn
    try clear hkn
    try simp only [Act.put, tdy]
    try simp only [lnS_no, ba_nil]
    iterate 1
      refine tkn (v := ?_) 20 rfl ?_ ?_; rotate_left 1
      · intro w hSw; have s9 := eqS w (f e); go_simp; try with_reducible rfl
      try simp only [Act.put, tdy]
    iterate 11
      refine tkn (v := ?_) 21 rfl ?_ ?_; rotate_left 1
      · intro w hSw; go_simp; try with_reducible rfl
      try simp only [Act.put, tdy]
    refine wpAnyH_ready (rs := [32]) (by kernel_rfl) (by simp) ?_
    refine AllReadyH.cons rfl (fun K hK => ?_) AllReadyH.nil
    go_simp
    obtain ⟨hBn, hGn⟩ := HSM.out _ hHeld
    refine (unwrap_any gb 0 _ _ (.inl rfl) hBn.b1).mono ?_
    rintro x wn ⟨rfl, hw⟩
    have hw := hw.symm
    subst hw
    refine hK.out _ _ hHeld (fun hHeld => ?_)
    clear hK K
    try clear hBn hGn
    try clear hkn
    try simp only [Act.put, tdy]
    try simp only [lnS_no, ba_nil]
    iterate 4
      refine tkn (v := ?_) 33 rfl ?_ ?_; rotate_left 1
      · intro w hSw; have s3 := eq27 w; go_simp; try with_reducible rfl
      try simp only [Act.put, tdy]
    iterate 3
      refine tkn (v := ?_) 38 rfl ?_ ?_; rotate_left 1
      · intro w hSw; go_simp; try with_reducible rfl
      try simp only [Act.put, tdy]
    iterate 1
      refine tkn (v := ?_) 41 rfl ?_ ?_; rotate_left 1
      · intro w hSw; obtain ⟨hBn, hGn⟩ := HSM.out w hSw; have hBc := hBn.c1; clear hBn hGn; go_simp; try with_reducible rfl
      try simp only [Act.put, tdy]
    refine wpAnyH_ready (rs := [37]) (by kernel_rfl) (by simp) ?_
    refine AllReadyH.cons rfl (fun K hK => ?_) AllReadyH.nil
    go_simp
    obtain ⟨hBn, hGn⟩ := HSM.out _ hHeld
    refine (unwrap_any gc 0 _ _ (.inr ⟨_, _, rfl⟩) hBn.c1).mono ?_
    rintro x wn ⟨rfl, hw⟩
    have hw := hw.symm
    subst hw
    refine hK.out _ _ hHeld (fun hHeld => ?_)
    clear hK K
    try clear hBn hGn
    try clear hkn
    try simp only [Act.put, tdy]
    try simp only [lnS_no, ba_nil]
    iterate 2
      refine tkn (v := ?_) 42 rfl ?_ ?_; rotate_left 1
      · intro w hSw; have s3 := eq27p w gi; go_simp; try with_reducible rfl
      try simp only [Act.put, tdy]
    refine wpAnyH_ready (rs := [44]) (by kernel_rfl) (by simp) ?_
    refine AllReadyH.cons rfl (fun K hK => ?_) AllReadyH.nil
    go_simp
    refine hK.out _ _ hHeld (fun hHeld => ?_)
    clear hK K
    try simp only [Act.put, tdy]
    refine wpAnyH_done (by kernel_rfl) ?_ _
    have HKE := hid_of (HK11.out.trans hHeld)
    clear hHeld HSM
    go_wp2
    go_ret
    exact ⟨rfl, HKE.out⟩
  · have hi0 : (li == 0) = false := by simp [hi]
    have hSi := lnS_yes li hi
    have HDi := hid_of (decimal_any li hi1 hi2 w9)
    have hleni := Lib.itoa_length_le li hi1 hi2
    have hfe := hf e
    have hsi := lnS_size li hi1 hi2
    go_wp2_with fail
    refine HDi.out.mono ?_
    rintro x w11 ⟨rfl, hk⟩
    have HB11 := hid_of (HB.out.kept hk)
    have HK11 := hid_of (HK9.out.trans hk)
    have HG11 := hid_of (HG9.out.kept0 hk)
    clear hk HDi HB HG9 HK9 hi0
    have HU := hid_of (unwrap_any ga 0 _ w11 (.inr ⟨_, _, rfl⟩) HB11.out.a1)
    go_wp2_with fail
    refine HU.out.mono ?_
    rintro x w12 ⟨rfl, hw⟩
    have hw := hw.symm
    subst hw
    clear HU
    have hta := ta_num w11 e
    go_upto_region 13 with fail
    clear hta
    have hze := hf e
    have hzl := lnS_size 0 hl1 hl2
    have hzi := lnS_size li hi1 hi2
    have hq1 : ¬ (9223372036854775807 < (f e).size) := by omega
    have hq3 : ¬ (9223372036854775807 < (lnS li).size + (f e).size) := by omega
    clear hzi hzl hze
    refine wp_region_held_drew (S := fun w' => Kept (fun _ => False) w11 w') (by kernel_rfl) ((Kept.refl _ _).drew) (fun hHeld => ?_)
    have HSM : Hid (∀ w', Kept (fun _ => False) w11 w' → Bx w' ga gb gi gc 0 e li ∧ Gl w') := fun w' hw => ⟨HB11.out.kept hw, HG11.out.kept0 hw⟩
    generalize w11.drew = wd at *
    clear HB11 HG11
    iterate 1
      refine tkn (v := ?_) 0 rfl ?_ ?_; rotate_left 1
      · intro w hSw; go_simp; try with_reducible rfl
      try simp only [Act.put, tdy]
    iterate 2
      refine tkn (v := ?_) 2 rfl ?_ ?_; rotate_left 1
      · intro w hSw; go_simp; try with_reducible rfl
      try simp only [Act.put, tdy]
    refine wpAnyH_ready (rs := [1]) (by kernel_rfl) (by simp) ?_
    refine AllReadyH.cons rfl (fun K hK => ?_) AllReadyH.nil
    go_simp
    obtain ⟨hBn, hGn⟩ := HSM.out _ hHeld
    refine (error_num ga 0 e _ hBn.a0 hBn.a1 f hf h6 hGn hl1 hl2).mono ?_
    rintro x wn ⟨rfl, hkn⟩
    refine hK.out _ _ (hHeld.trans hkn) (fun hHeld => ?_)
    clear hK K
    try clear hBn hGn
    try clear hkn
    try simp only [Act.put, tdy]
    try simp only [lnS_no, ba_nil]
    refine wpAnyH_ready (rs := [4]) (by kernel_rfl) (by simp) ?_
    refine AllReadyH.cons rfl (fun K hK => ?_) AllReadyH.nil
    go_simp
    obtain ⟨hBn, hGn⟩ := HSM.out _ hHeld
    refine (h6 e _).mono ?_
    rintro x wn ⟨rfl, hw⟩
    have hw := hw.symm
    subst hw
    refine hK.out _ _ hHeld (fun hHeld => ?_)
    clear hK K
    try clear hBn hGn
    try clear hkn
    try simp only [Act.put, tdy]
    try simp only [lnS_no, ba_nil]
    iterate 1
      refine tkn (v := ?_) 5 rfl ?_ ?_; rotate_left 1
      · intro w hSw; go_simp; try with_reducible rfl
      try simp only [Act.put, tdy]
    try simp only [ba_nil]
    iterate 2
      refine tkn (v := ?_) 6 rfl ?_ ?_; rotate_left 1
      · intro w hSw; have s9 := eqS w (f e); go_simp; try with_reducible rfl
      try simp only [Act.put, tdy]
    iterate 1
      refine tkn (v := ?_) 8 rfl ?_ ?_; rotate_left 1
      · intro w hSw; go_simp; try with_reducible rfl
      try simp only [Act.put, tdy]
    iterate 2
      refine tkn (v := ?_) 10 rfl ?_ ?_; rotate_left 1
      · intro w hSw; go_simp; try with_reducible rfl
      try simp only [Act.put, tdy]
    try simp only [ba_nil]
    refine wpAnyH_ready (rs := [9]) (by kernel_rfl) (by simp) ?_
    refine AllReadyH.cons rfl (fun K hK => ?_) AllReadyH.nil
    go_simp
    obtain ⟨hBn, hGn⟩ := HSM.out _ hHeld
    refine (error_no gb 0 _ hBn.b0 hBn.b1 f hf h6 hGn hl1 hl2).mono ?_
    rintro x wn ⟨rfl, hkn⟩
    refine hK.out _ _ (hHeld.trans hkn) (fun hHeld => ?_)
    clear hK K
    try clear hBn hGn
    try clear hkn
    try simp only [Act.put, tdy]
    try simp only [lnS_no, ba_nil]
    simp only [hf0]
    iterate 3
      refine tkn (v := ?_) 12 rfl ?_ ?_; rotate_left 1
      · intro w hSw; have s9 := eqS w (⟨#[111, 107]⟩); go_simp; try with_reducible rfl
      try simp only [Act.put, tdy]
    iterate 1
      refine tkn (v := ?_) 15 rfl ?_ ?_; rotate_left 1
      · intro w hSw; go_simp; try with_reducible rfl
      try simp only [Act.put, tdy]
    iterate 3
      refine tkn (v := ?_) 17 rfl ?_ ?_; rotate_left 1
      · intro w hSw; go_simp; try with_reducible rfl
      try simp only [Act.put, tdy]
    try simp only [ba_nil]
    refine wpAnyH_ready (rs := [16]) (by kernel_rfl) (by simp) ?_
    refine AllReadyH.cons rfl (fun K hK => ?_) AllReadyH.nil
    go_simp
    obtain ⟨hBn, hGn⟩ := HSM.out _ hHeld
    refine (error_line gc 0 gi (lnS li ++ f e) _ hBn.c0 hBn.c1 f hf h6 hGn hl1 hl2 (by have := hf e; have := lnS_size li (by omega) (by omega); rw [ByteArray.size_append]; omega) (error_num gi li e _ hBn.i0 hBn.i1 f hf h6 hGn hi1 hi2)).mono ?_
    rintro x wn ⟨rfl, hkn⟩
    refine hK.out _ _ (hHeld.trans hkn) (fun hHeld => ?_)
    clear hK K
    try clear hBn hGn
    try clear hkn
    try simp only [Act.put, tdy]
    try simp only [lnS_no, ba_nil]
    iterate 1
      refine tkn (v := ?_) 20 rfl ?_ ?_; rotate_left 1
      · intro w hSw; have s9 := eqS w (lnS li ++ f e); go_simp; try with_reducible rfl
      try simp only [Act.put, tdy]
    iterate 11
      refine tkn (v := ?_) 21 rfl ?_ ?_; rotate_left 1
      · intro w hSw; go_simp; try with_reducible rfl
      try simp only [Act.put, tdy]
    refine wpAnyH_ready (rs := [32]) (by kernel_rfl) (by simp) ?_
    refine AllReadyH.cons rfl (fun K hK => ?_) AllReadyH.nil
    go_simp
    obtain ⟨hBn, hGn⟩ := HSM.out _ hHeld
    refine (unwrap_any gb 0 _ _ (.inl rfl) hBn.b1).mono ?_
    rintro x wn ⟨rfl, hw⟩
    have hw := hw.symm
    subst hw
    refine hK.out _ _ hHeld (fun hHeld => ?_)
    clear hK K
    try clear hBn hGn
    try clear hkn
    try simp only [Act.put, tdy]
    try simp only [lnS_no, ba_nil]
    iterate 4
      refine tkn (v := ?_) 33 rfl ?_ ?_; rotate_left 1
      · intro w hSw; have s3 := eq27 w; go_simp; try with_reducible rfl
      try simp only [Act.put, tdy]
    iterate 3
      refine tkn (v := ?_) 38 rfl ?_ ?_; rotate_left 1
      · intro w hSw; go_simp; try with_reducible rfl
      try simp only [Act.put, tdy]
    iterate 1
      refine tkn (v := ?_) 41 rfl ?_ ?_; rotate_left 1
      · intro w hSw; obtain ⟨hBn, hGn⟩ := HSM.out w hSw; have hBc := hBn.c1; clear hBn hGn; go_simp; try with_reducible rfl
      try simp only [Act.put, tdy]
    refine wpAnyH_ready (rs := [37]) (by kernel_rfl) (by simp) ?_
    refine AllReadyH.cons rfl (fun K hK => ?_) AllReadyH.nil
    go_simp
    obtain ⟨hBn, hGn⟩ := HSM.out _ hHeld
    refine (unwrap_any gc 0 _ _ (.inr ⟨_, _, rfl⟩) hBn.c1).mono ?_
    rintro x wn ⟨rfl, hw⟩
    have hw := hw.symm
    subst hw
    refine hK.out _ _ hHeld (fun hHeld => ?_)
    clear hK K
    try clear hBn hGn
    try clear hkn
    try simp only [Act.put, tdy]
    try simp only [lnS_no, ba_nil]
    iterate 2
      refine tkn (v := ?_) 42 rfl ?_ ?_; rotate_left 1
      · intro w hSw; have s3 := eq27p w gi; go_simp; try with_reducible rfl
      try simp only [Act.put, tdy]
    refine wpAnyH_ready (rs := [44]) (by kernel_rfl) (by simp) ?_
    refine AllReadyH.cons rfl (fun K hK => ?_) AllReadyH.nil
    go_simp
    refine hK.out _ _ hHeld (fun hHeld => ?_)
    clear hK K
    try simp only [Act.put, tdy]
    refine wpAnyH_done (by kernel_rfl) ?_ _
    have HKE := hid_of (HK11.out.trans hHeld)
    clear hHeld HSM
    go_wp2
    go_ret
    exact ⟨rfl, HKE.out⟩
theorem errors_walk (hc1 : CutR ln1B qs1) (hc2 : CutR ln2B qs2) (ln e li : Int) (hl1 : -9223372036854775808 ≤ ln) (hl2 : ln ≤ 9223372036854775807) (hi1 : -9223372036854775808 ≤ li) (hi2 : li ≤ 9223372036854775807) (w : World) (hG : Gl w) :
    Calls Tryz.prog 3 #[.int .i64 ln, .int .i64 e, .int .i64 li] w fun x w' => x = .returned (.bool true) ∧ Kept (fun _ => False) w w' := by
  by_cases hl : ln = 0
  · subst hl
    exact errors_zero hc1 hc2 e li hi1 hi2 w hG
  · exact errors_line hc1 hc2 ln e li hl hl1 hl2 hi1 hi2 w hG
end Go.Proofs.YtkilngknklpadaaGreatDoor

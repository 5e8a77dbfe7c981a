/-
  The law AsmErrors.
-/
import Derived.Test.YtkilngknklpadaaGreatDoorAr
import Derived.Test.YtkilngknklpadaaGreatDoorAu
namespace Go.Proofs.YtkilngknklpadaaGreatDoor
open Go.RowKit
set_option linter.unusedVariables false
set_option linter.unusedSimpArgs false
set_option maxRecDepth 100000

/-- The four boxes of the law. -/
structure Bx (w : World) (ga gb gi gc : Nat) (ln e li : Int) : Prop where
  a0 : w.cell? ⟨ga, 0, none⟩ = some (.int .i64 ln)
  a1 : w.cell? ⟨ga, 1, none⟩ = some (.iface 25 (.int .i64 e))
  b0 : w.cell? ⟨gb, 0, none⟩ = some (.int .i64 ln)
  b1 : w.cell? ⟨gb, 1, none⟩ = some .nilIface
  i0 : w.cell? ⟨gi, 0, none⟩ = some (.int .i64 li)
  i1 : w.cell? ⟨gi, 1, none⟩ = some (.iface 25 (.int .i64 e))
  c0 : w.cell? ⟨gc, 0, none⟩ = some (.int .i64 ln)
  c1 : w.cell? ⟨gc, 1, none⟩ = some (.iface 24 (.pointer (some ⟨gi, 0, none⟩)))
theorem Bx.kept {w w' : World} {ga gb gi gc : Nat} {ln e li : Int} (h : Bx w ga gb gi gc ln e li) (hk : Kept (fun _ => False) w w') : Bx w' ga gb gi gc ln e li :=
  ⟨hk.cell h.a0 (fun f => f), hk.cell h.a1 (fun f => f), hk.cell h.b0 (fun f => f), hk.cell h.b1 (fun f => f), hk.cell h.i0 (fun f => f), hk.cell h.i1 (fun f => f), hk.cell h.c0 (fun f => f), hk.cell h.c1 (fun f => f)⟩
theorem boxes (w : World) (ln e li : Int) : Bx ((((w.alloc (.cells #[.int .i64 ln, .iface 25 (.int .i64 e)] 29)).alloc (.cells #[.int .i64 ln, .nilIface] 29)).alloc (.cells #[.int .i64 li, .iface 25 (.int .i64 e)] 29)).alloc (.cells #[.int .i64 ln, .iface 24 (.pointer (some ⟨w.heap.size + 1 + 1, 0, none⟩))] 29)) w.heap.size (w.heap.size + 1) (w.heap.size + 1 + 1) (w.heap.size + 1 + 1 + 1) ln e li := by
  have k1 : ∀ (W : World) (o : Obj), Kept (fun _ => False) W (W.alloc o) := fun W o => (Kept.refl _ W).alloc o
  have hs : ∀ (W : World) (o : Obj), (W.alloc o).heap.size = W.heap.size + 1 := fun W o => Array.size_push _
  obtain ⟨g, hg⟩ : ∃ g, g = w.heap.size := ⟨_, rfl⟩
  have e1 := heap_alloc_new w (.cells #[.int .i64 ln, .iface 25 (.int .i64 e)] 29)
  have s1 := hs w (.cells #[.int .i64 ln, .iface 25 (.int .i64 e)] 29)
  rw [← hg] at e1 s1 ⊢
  generalize w.alloc (.cells #[.int .i64 ln, .iface 25 (.int .i64 e)] 29) = W1 at *
  have e2 := heap_alloc_new W1 (.cells #[.int .i64 ln, .nilIface] 29)
  have s2 := hs W1 (.cells #[.int .i64 ln, .nilIface] 29)
  have q2 := k1 W1 (.cells #[.int .i64 ln, .nilIface] 29)
  rw [s1] at e2 s2
  generalize W1.alloc (.cells #[.int .i64 ln, .nilIface] 29) = W2 at *
  have e3 := heap_alloc_new W2 (.cells #[.int .i64 li, .iface 25 (.int .i64 e)] 29)
  have s3 := hs W2 (.cells #[.int .i64 li, .iface 25 (.int .i64 e)] 29)
  have q3 := k1 W2 (.cells #[.int .i64 li, .iface 25 (.int .i64 e)] 29)
  rw [s2] at e3 s3
  generalize W2.alloc (.cells #[.int .i64 li, .iface 25 (.int .i64 e)] 29) = W3 at *
  have e4 := heap_alloc_new W3 (.cells #[.int .i64 ln, .iface 24 (.pointer (some ⟨g + 1 + 1, 0, none⟩))] 29)
  have q4 := k1 W3 (.cells #[.int .i64 ln, .iface 24 (.pointer (some ⟨g + 1 + 1, 0, none⟩))] 29)
  rw [s3] at e4
  generalize W3.alloc (.cells #[.int .i64 ln, .iface 24 (.pointer (some ⟨g + 1 + 1, 0, none⟩))] 29) = W4 at *
  have q34 := q3.trans q4
  have q24 := q2.trans q34
  exact ⟨q24.cell (cell_block _ _ 0 _ _ _ e1) (fun f => f), q24.cell (cell_block _ _ 1 _ _ _ e1) (fun f => f), q34.cell (cell_block _ _ 0 _ _ _ e2) (fun f => f), q34.cell (cell_block _ _ 1 _ _ _ e2) (fun f => f), q4.cell (cell_block _ _ 0 _ _ _ e3) (fun f => f), q4.cell (cell_block _ _ 1 _ _ _ e3) (fun f => f), cell_block _ _ 0 _ _ _ e4, cell_block _ _ 1 _ _ _ e4⟩
theorem eq27p (w : World) (g : Nat) : (binOp .eql 27 (.iface 24 (.pointer (some ⟨g, 0, none⟩))) (.iface 24 (.pointer (some ⟨g, 0, none⟩)))).run Tryz.prog w = .ok (.bool true) w := by
  have h24 : (Tryz.prog.info? 24).map (·.comparable) = some true := by kernel_rfl
  have h29 : (Tryz.prog.info? 29).isSome = true := by kernel_rfl
  obtain ⟨j, hj⟩ := Option.isSome_iff_exists.1 h29
  obtain ⟨i, hi, hc⟩ := Option.map_eq_some_iff.1 h24
  exact run_eql_iface_ptr_same w ⟨g, 0, none⟩ (ms := Tryz.prog.methodsAt 27) (by kernel_rfl) (by kernel_rfl) hi hc hj
theorem eqS (w : World) (s : ByteArray) : (binOp .eql 9 (.string s) (.string s)).run Tryz.prog w = .ok (.bool true) w := by
  go_simp
theorem ta_num (w : World) (e : Int) : (Instr.typeAssert (.iface 25 (.int .i64 e)) 27 25 true).run Tryz.prog w = .ok (.tuple #[.int .i64 e, .bool true]) w := by kernel_rfl
set_option maxHeartbeats 16000000 in
theorem errors_line (hc1 : CutR ln1B qs1) (hc2 : CutR ln2B qs2) (ln : Int) (e li : Int) (hl : ln ≠ 0) (hl1 : -9223372036854775808 ≤ ln) (hl2 : ln ≤ 9223372036854775807) (hi1 : -9223372036854775808 ≤ li) (hi2 : li ≤ 9223372036854775807) (w : World) (hG : Gl w) :
    Calls Tryz.prog 3 #[.int .i64 ln, .int .i64 e, .int .i64 li] w fun x w' => x = .returned (.bool true) ∧ Kept (fun _ => False) w w' := by
  obtain ⟨f, hf, hf0, h6⟩ := word_fun
  have HN := hid_of (known_any hc1 hc2 w hG)
  have HG := hid_of hG
  clear hc1 hc2 hG
  go_enter Tryz.func3, Tryz.ntmps3
  go_wp2_with fail
  refine HN.out.mono ?_
  rintro x w1 ⟨rfl, hk⟩
  have HK := hid_of hk
  clear hk HN
  have hl0 : (ln == 0) = false := by simp [hl]
  have hSl := lnS_yes ln hl
  have HDl := hid_of (decimal_any ln hl1 hl2 w1)
  have hlenl := Lib.itoa_length_le ln hl1 hl2
  go_wp2_with fail
  refine HDl.out.mono ?_
  rintro x w2 ⟨rfl, hk⟩
  have HK2 := hid_of (HK.out.trans hk)
  clear hk HDl HK hl0
  go_upto_region 9 with fail
  have HB := hid_of (boxes w2 ln e li)
  have HK9 := hid_of ((((HK2.out.alloc (.cells #[.int .i64 ln, .iface 25 (.int .i64 e)] 29)).alloc (.cells #[.int .i64 ln, .nilIface] 29)).alloc (.cells #[.int .i64 li, .iface 25 (.int .i64 e)] 29)).alloc (.cells #[.int .i64 ln, .iface 24 (.pointer (some ⟨w2.heap.size + 1 + 1, 0, none⟩))] 29))
  clear HK2
  generalize (((w2.alloc (.cells #[.int .i64 ln, .iface 25 (.int .i64 e)] 29)).alloc (.cells #[.int .i64 ln, .nilIface] 29)).alloc (.cells #[.int .i64 li, .iface 25 (.int .i64 e)] 29)).alloc (.cells #[.int .i64 ln, .iface 24 (.pointer (some ⟨w2.heap.size + 1 + 1, 0, none⟩))] 29) = w9 at *
  generalize w2.heap.size + 1 + 1 + 1 = gc at *
  generalize w2.heap.size + 1 + 1 = gi at *
  generalize w2.heap.size + 1 = gb at *
  generalize w2.heap.size = ga at *
  have HG9 := hid_of (HG.out.kept0 HK9.out)
  have HW := hid_of (h6 e w9)
  go_wp2_with fail
  refine HW.out.mono ?_
  rintro x w10 ⟨rfl, hw⟩
  have hw := hw.symm
  subst hw
  clear HW
  by_cases hi : li = 0
  · subst hi
    have HB11 := HB
    have HG11 := HG9
    have HK11 := HK9
    clear HB HG9 HK9
    have HU := hid_of (unwrap_any ga ln _ w9 (.inr ⟨_, _, rfl⟩) HB11.out.a1)
    go_wp2_with fail
    refine HU.out.mono ?_
    rintro x w12 ⟨rfl, hw⟩
    have hw := hw.symm
    subst hw
    clear HU
    have hta := ta_num w9 e
    go_upto_region 13 with fail
    clear hta
    have hze := hf e
    have hzl := lnS_size ln hl1 hl2
    have hzi := lnS_size 0 (by decide) (by decide)
    have hq1 : ¬ (9223372036854775807 < (lnS ln).size + (f e).size) := by omega
    have hq2 : ¬ (9223372036854775807 < (lnS ln).size + 2) := by omega
    skip
    clear hzi hzl hze
    refine wp_region_held_drew (S := fun w' => Kept (fun _ => False) w9 w') (by kernel_rfl) ((Kept.refl _ _).drew) (fun hHeld => ?_)
    have HSM : Hid (∀ w', Kept (fun _ => False) w9 w' → Bx w' ga gb gi gc ln e 0 ∧ Gl w') := fun w' hw => ⟨HB11.out.kept hw, HG11.out.kept0 hw⟩
    generalize w9.drew = wd at *
    clear HB11 HG11
    iterate 1
      refine tkn (v := ?_) 0 rfl ?_ ?_; rotate_left 1
      · intro w hSw; go_simp; try with_reducible rfl
      try simp only [Act.put, tdy]
    iterate 2
      refine tkn (v := ?_) 2 rfl ?_ ?_; rotate_left 1
      · intro w hSw; go_simp; try with_reducible rfl
      try simp only [Act.put, tdy]
    refine wpAnyH_ready (rs := [1]) (by kernel_rfl) (by simp) ?_
    refine AllReadyH.cons rfl (fun K hK => ?_) AllReadyH.nil
    go_simp
    obtain ⟨hBn, hGn⟩ := HSM.out _ hHeld
    refine (error_num ga ln e _ hBn.a0 hBn.a1 f hf h6 hGn hl1 hl2).mono ?_
    rintro x wn ⟨rfl, hkn⟩
    refine hK.out _ _ (hHeld.trans hkn) (fun hHeld => ?_)
    clear hK K
    try clear hBn hGn
    try clear hkn
    try simp only [Act.put, tdy]
    refine wpAnyH_ready (rs := [4]) (by kernel_rfl) (by simp) ?_
    refine AllReadyH.cons rfl (fun K hK => ?_) AllReadyH.nil
    go_simp
    obtain ⟨hBn, hGn⟩ := HSM.out _ hHeld
    refine (h6 e _).mono ?_
    rintro x wn ⟨rfl, hw⟩
    have hw := hw.symm
    subst hw
    refine hK.out _ _ hHeld (fun hHeld => ?_)
    clear hK K
    try clear hBn hGn
    try clear hkn
    try simp only [Act.put, tdy]
    iterate 1
      refine tkn (v := ?_) 5 rfl ?_ ?_; rotate_left 1
      · intro w hSw; go_simp; try with_reducible rfl
      try simp only [Act.put, tdy]
    iterate 2
      refine tkn (v := ?_) 6 rfl ?_ ?_; rotate_left 1
      · intro w hSw; have s9 := eqS w (lnS ln ++ f e); go_simp; try with_reducible rfl
      try simp only [Act.put, tdy]
    iterate 1
      refine tkn (v := ?_) 8 rfl ?_ ?_; rotate_left 1
      · intro w hSw; go_simp; try with_reducible rfl
      try simp only [Act.put, tdy]
    iterate 2
      refine tkn (v := ?_) 10 rfl ?_ ?_; rotate_left 1
      · intro w hSw; go_simp; try with_reducible rfl
      try simp only [Act.put, tdy]
    refine wpAnyH_ready (rs := [9]) (by kernel_rfl) (by simp) ?_
    refine AllReadyH.cons rfl (fun K hK => ?_) AllReadyH.nil
    go_simp
    obtain ⟨hBn, hGn⟩ := HSM.out _ hHeld
    refine (error_no gb ln _ hBn.b0 hBn.b1 f hf h6 hGn hl1 hl2).mono ?_
    rintro x wn ⟨rfl, hkn⟩
    refine hK.out _ _ (hHeld.trans hkn) (fun hHeld => ?_)
    clear hK K
    try clear hBn hGn
    try clear hkn
    try simp only [Act.put, tdy]
    simp only [hf0]
    iterate 3
      refine tkn (v := ?_) 12 rfl ?_ ?_; rotate_left 1
      · intro w hSw; have s9 := eqS w (lnS ln ++ ⟨#[111, 107]⟩); go_simp; try with_reducible rfl
      try simp only [Act.put, tdy]
    iterate 1
      refine tkn (v := ?_) 15 rfl ?_ ?_; rotate_left 1
      · intro w hSw; go_simp; try with_reducible rfl
      try simp only [Act.put, tdy]
    iterate 3
      refine tkn (v := ?_) 17 rfl ?_ ?_; rotate_left 1
      · intro w hSw; go_simp; try with_reducible rfl
      try simp only [Act.put, tdy]
    refine wpAnyH_ready (rs := [16]) (by kernel_rfl) (by simp) ?_
    refine AllReadyH.cons rfl (fun K hK => ?_) AllReadyH.nil
    go_simp
    obtain ⟨hBn, hGn⟩ := HSM.out _ hHeld
    refine (error_line gc ln gi (lnS 0 ++ f e) _ hBn.c0 hBn.c1 f hf h6 hGn hl1 hl2 (by have := hf e; have := lnS_size 0 (by omega) (by omega); rw [ByteArray.size_append]; omega) (error_num gi 0 e _ hBn.i0 hBn.i1 f hf h6 hGn (by decide) (by decide))).mono ?_
    rintro x wn ⟨rfl, hkn⟩
    refine hK.out _ _ (hHeld.trans hkn) (fun hHeld => ?_)
    clear hK K
    try clear hBn hGn
    try clear hkn
    try simp only [Act.put, tdy]
    simp only [lnS_no, ba_nil]
    iterate 1
      refine tkn (v := ?_) 20 rfl ?_ ?_; rotate_left 1
      · intro w hSw; have s9 := eqS w (lnS ln ++ f e); go_simp; try with_reducible rfl
      try simp only [Act.put, tdy]
    iterate 11
      refine tkn (v := ?_) 21 rfl ?_ ?_; rotate_left 1
      · intro w hSw; go_simp; try with_reducible rfl
      try simp only [Act.put, tdy]
    refine wpAnyH_ready (rs := [32]) (by kernel_rfl) (by simp) ?_
    refine AllReadyH.cons rfl (fun K hK => ?_) AllReadyH.nil
    go_simp
    obtain ⟨hBn, hGn⟩ := HSM.out _ hHeld
    refine (unwrap_any gb ln _ _ (.inl rfl) hBn.b1).mono ?_
    rintro x wn ⟨rfl, hw⟩
    have hw := hw.symm
    subst hw
    refine hK.out _ _ hHeld (fun hHeld => ?_)
    clear hK K
    try clear hBn hGn
    try clear hkn
    try simp only [Act.put, tdy]
    iterate 4
      refine tkn (v := ?_) 33 rfl ?_ ?_; rotate_left 1
      · intro w hSw; have s3 := eq27 w; go_simp; try with_reducible rfl
      try simp only [Act.put, tdy]
    iterate 3
      refine tkn (v := ?_) 38 rfl ?_ ?_; rotate_left 1
      · intro w hSw; go_simp; try with_reducible rfl
      try simp only [Act.put, tdy]
    iterate 1
      refine tkn (v := ?_) 41 rfl ?_ ?_; rotate_left 1
      · intro w hSw; obtain ⟨hBn, hGn⟩ := HSM.out w hSw; have hBc := hBn.c1; clear hBn hGn; go_simp; try with_reducible rfl
      try simp only [Act.put, tdy]
    refine wpAnyH_ready (rs := [37]) (by kernel_rfl) (by simp) ?_
    refine AllReadyH.cons rfl (fun K hK => ?_) AllReadyH.nil
    go_simp
    obtain ⟨hBn, hGn⟩ := HSM.out _ hHeld
    refine (unwrap_any gc ln _ _ (.inr ⟨_, _, rfl⟩) hBn.c1).mono ?_
    rintro x wn ⟨rfl, hw⟩
    have hw := hw.symm
    subst hw
    refine hK.out _ _ hHeld (fun hHeld => ?_)
    clear hK K
    try clear hBn hGn
    try clear hkn
    try simp only [Act.put, tdy]
    iterate 2
      refine tkn (v := ?_) 42 rfl ?_ ?_; rotate_left 1
      · intro w hSw; have s3 := eq27p w gi; go_simp; try with_reducible rfl
      try simp only [Act.put, tdy]
    refine wpAnyH_ready (rs := [44]) (by kernel_rfl) (by simp) ?_
    refine AllReadyH.cons rfl (fun K hK => ?_) AllReadyH.nil
    go_simp
    refine hK.out _ _ hHeld (fun hHeld => ?_)
    clear hK K
    try simp only [Act.put, tdy]
    refine wpAnyH_done (by kernel_rfl) ?_ _
    have HKE := hid_of (HK11.out.trans hHeld)
    clear hHeld HSM
    go_wp2
    go_ret
    exact ⟨rfl, HKE.out⟩
  · have hi0 : (li == 0) = false := by simp [hi]
    have hSi := lnS_yes li hi
    have HDi := hid_of (decimal_any li hi1 hi2 w9)
    have hleni := Lib.itoa_length_le li hi1 hi2
    have hfe := hf e
    have hsi := lnS_size li hi1 hi2
    go_wp2_with fail
    refine HDi.out.mono ?_
    rintro x w11 ⟨rfl, hk⟩
    have HB11 := hid_of (HB.out.kept hk)
    have HK11 := hid_of (HK9.out.trans hk)
    have HG11 := hid_of (HG9.out.kept0 hk)
    clear hk HDi HB HG9 HK9 hi0
    have HU := hid_of (unwrap_any ga ln _ w11 (.inr ⟨_, _, rfl⟩) HB11.out.a1)
    go_wp2_with fail
    refine HU.out.mono ?_
    rintro x w12 ⟨rfl, hw⟩
    have hw := hw.symm
    subst hw
    clear HU
    have hta := ta_num w11 e
    go_upto_region 13 with fail
    clear hta
    have hze := hf e
    have hzl := lnS_size ln hl1 hl2
    have hzi := lnS_size li hi1 hi2
    have hq1 : ¬ (9223372036854775807 < (lnS ln).size + (f e).size) := by omega
    have hq2 : ¬ (9223372036854775807 < (lnS ln).size + 2) := by omega
    have hq3 : ¬ (9223372036854775807 < (lnS ln).size + ((lnS li).size + (f e).size)) := by omega
    clear hzi hzl hze
    refine wp_region_held_drew (S := fun w' => Kept (fun _ => False) w11 w') (by kernel_rfl) ((Kept.refl _ _).drew) (fun hHeld => ?_)
    have HSM : Hid (∀ w', Kept (fun _ => False) w11 w' → Bx w' ga gb gi gc ln e li ∧ Gl w') := fun w' hw => ⟨HB11.out.kept hw, HG11.out.kept0 hw⟩
    generalize w11.drew = wd at *
    clear HB11 HG11
    iterate 1
      refine tkn (v := ?_) 0 rfl ?_ ?_; rotate_left 1
      · intro w hSw; go_simp; try with_reducible rfl
      try simp only [Act.put, tdy]
    iterate 2
      refine tkn (v := ?_) 2 rfl ?_ ?_; rotate_left 1
      · intro w hSw; go_simp; try with_reducible rfl
      try simp only [Act.put, tdy]
    refine wpAnyH_ready (rs := [1]) (by kernel_rfl) (by simp) ?_
    refine AllReadyH.cons rfl (fun K hK => ?_) AllReadyH.nil
    go_simp
    obtain ⟨hBn, hGn⟩ := HSM.out _ hHeld
    refine (error_num ga ln e _ hBn.a0 hBn.a1 f hf h6 hGn hl1 hl2).mono ?_
    rintro x wn ⟨rfl, hkn⟩
    refine hK.out _ _ (hHeld.trans hkn) (fun hHeld => ?_)
    clear hK K
    try clear hBn hGn
    try clear hkn
    try simp only [Act.put, tdy]
    refine wpAnyH_ready (rs := [4]) (by kernel_rfl) (by simp) ?_
    refine AllReadyH.cons rfl (fun K hK => ?_) AllReadyH.nil
    go_simp
    obtain ⟨hBn, hGn⟩ := HSM.out _ hHeld
    refine (h6 e _).mono ?_
    rintro x wn ⟨rfl, hw⟩
    have hw := hw.symm
    subst hw
    refine hK.out _ _ hHeld (fun hHeld => ?_)
    clear hK K
    try clear hBn hGn
    try clear hkn
    try simp only [Act.put, tdy]
    iterate 1
      refine tkn (v := ?_) 5 rfl ?_ ?_; rotate_left 1
      · intro w hSw; go_simp; try with_reducible rfl
      try simp only [Act.put, tdy]
    iterate 2
      refine tkn (v := ?_) 6 rfl ?_ ?_; rotate_left 1
      · intro w hSw; have s9 := eqS w (lnS ln ++ f e); go_simp; try with_reducible rfl
      try simp only [Act.put, tdy]
    iterate 1
      refine tkn (v := ?_) 8 rfl ?_ ?_; rotate_left 1
      · intro w hSw; go_simp; try with_reducible rfl
      try simp only [Act.put, tdy]
    iterate 2
      refine tkn (v := ?_) 10 rfl ?_ ?_; rotate_left 1
      · intro w hSw; go_simp; try with_reducible rfl
      try simp only [Act.put, tdy]
    refine wpAnyH_ready (rs := [9]) (by kernel_rfl) (by simp) ?_
    refine AllReadyH.cons rfl (fun K hK => ?_) AllReadyH.nil
    go_simp
    obtain ⟨hBn, hGn⟩ := HSM.out _ hHeld
    refine (error_no gb ln _ hBn.b0 hBn.b1 f hf h6 hGn hl1 hl2).mono ?_
    rintro x wn ⟨rfl, hkn⟩
    refine hK.out _ _ (hHeld.trans hkn) (fun hHeld => ?_)
    clear hK K
    try clear hBn hGn
    try clear hkn
    try simp only [Act.put, tdy]
    simp only [hf0]
    iterate 3
      refine tkn (v := ?_) 12 rfl ?_ ?_; rotate_left 1
      · intro w hSw; have s9 := eqS w (lnS ln ++ ⟨#[111, 107]⟩); go_simp; try with_reducible rfl
      try simp only [Act.put, tdy]
    iterate 1
      refine tkn (v := ?_) 15 rfl ?_ ?_; rotate_left 1
      · intro w hSw; go_simp; try with_reducible rfl
      try simp only [Act.put, tdy]
    iterate 3
      refine tkn (v := ?_) 17 rfl ?_ ?_; rotate_left 1
      · intro w hSw; go_simp; try with_reducible rfl
      try simp only [Act.put, tdy]
    refine wpAnyH_ready (rs := [16]) (by kernel_rfl) (by simp) ?_
    refine AllReadyH.cons rfl (fun K hK => ?_) AllReadyH.nil
    go_simp
    obtain ⟨hBn, hGn⟩ := HSM.out _ hHeld
    refine (error_line gc ln gi (lnS li ++ f e) _ hBn.c0 hBn.c1 f hf h6 hGn hl1 hl2 (by have := hf e; have := lnS_size li (by omega) (by omega); rw [ByteArray.size_append]; omega) (error_num gi li e _ hBn.i0 hBn.i1 f hf h6 hGn hi1 hi2)).mono ?_
    rintro x wn ⟨rfl, hkn⟩
    refine hK.out _ _ (hHeld.trans hkn) (fun hHeld => ?_)
    clear hK K
    try clear hBn hGn
    try clear hkn
    try simp only [Act.put, tdy]
    iterate 1
      refine tkn (v := ?_) 20 rfl ?_ ?_; rotate_left 1
      · intro w hSw; have s9 := eqS w (lnS ln ++ (lnS li ++ f e)); go_simp; try with_reducible rfl
      try simp only [Act.put, tdy]
    iterate 11
      refine tkn (v := ?_) 21 rfl ?_ ?_; rotate_left 1
      · intro w hSw; go_simp; try with_reducible rfl
      try simp only [Act.put, tdy]
    refine wpAnyH_ready (rs := [32]) (by kernel_rfl) (by simp) ?_
    refine AllReadyH.cons rfl (fun K hK => ?_) AllReadyH.nil
    go_simp
    obtain ⟨hBn, hGn⟩ := HSM.out _ hHeld
    refine (unwrap_any gb ln _ _ (.inl rfl) hBn.b1).mono ?_
    rintro x wn ⟨rfl, hw⟩
    have hw := hw.symm
    subst hw
    refine hK.out _ _ hHeld (fun hHeld => ?_)
    clear hK K
    try clear hBn hGn
    try clear hkn
    try simp only [Act.put, tdy]
    iterate 4
      refine tkn (v := ?_) 33 rfl ?_ ?_; rotate_left 1
      · intro w hSw; have s3 := eq27 w; go_simp; try with_reducible rfl
      try simp only [Act.put, tdy]
    iterate 3
      refine tkn (v := ?_) 38 rfl ?_ ?_; rotate_left 1
      · intro w hSw; go_simp; try with_reducible rfl
      try simp only [Act.put, tdy]
    iterate 1
      refine tkn (v := ?_) 41 rfl ?_ ?_; rotate_left 1
      · intro w hSw; obtain ⟨hBn, hGn⟩ := HSM.out w hSw; have hBc := hBn.c1; clear hBn hGn; go_simp; try with_reducible rfl
      try simp only [Act.put, tdy]
    refine wpAnyH_ready (rs := [37]) (by kernel_rfl) (by simp) ?_
    refine AllReadyH.cons rfl (fun K hK => ?_) AllReadyH.nil
    go_simp
    obtain ⟨hBn, hGn⟩ := HSM.out _ hHeld
    refine (unwrap_any gc ln _ _ (.inr ⟨_, _, rfl⟩) hBn.c1).mono ?_
    rintro x wn ⟨rfl, hw⟩
    have hw := hw.symm
    subst hw
    refine hK.out _ _ hHeld (fun hHeld => ?_)
    clear hK K
    try clear hBn hGn
    try clear hkn
    try simp only [Act.put, tdy]
    iterate 2
      refine tkn (v := ?_) 42 rfl ?_ ?_; rotate_left 1
      · intro w hSw; have s3 := eq27p w gi; go_simp; try with_reducible rfl
      try simp only [Act.put, tdy]
    refine wpAnyH_ready (rs := [44]) (by kernel_rfl) (by simp) ?_
    refine AllReadyH.cons rfl (fun K hK => ?_) AllReadyH.nil
    go_simp
    refine hK.out _ _ hHeld (fun hHeld => ?_)
    clear hK K
    try simp only [Act.put, tdy]
    refine wpAnyH_done (by kernel_rfl) ?_ _
    have HKE := hid_of (HK11.out.trans hHeld)
    clear hHeld HSM
    go_wp2
    go_ret
    exact ⟨rfl, HKE.out⟩
end Go.Proofs.YtkilngknklpadaaGreatDoor

/-
  THi: Hi.
-/
import Derived.Test.YtcaadgcfceommaaGreatTHh
namespace Go.Proofs.YtcaadgcfceommaaGreat
open Go.RowKit
set_option linter.unusedVariables false
set_option linter.unusedSimpArgs false
set_option maxRecDepth 100000

theorem own_int {w : World} {b g n c : Nat} {l : List Int} (h : OwnN w b (.slice (some ⟨g, 0, none⟩) n c) l) (hn : l.length = n) {i : Nat} (hi : i < n) : w.cell? ⟨g, i, none⟩ = some (.int .i64 (l.getD i 0)) := by
  subst hn
  rw [h.cellAt _ (by omega)]
  simp [ints, List.getD, List.getElem?_eq_getElem hi]
set_option maxHeartbeats 32000000 in
theorem agrees_any (v : Value) (p : PG) (w : World) (B : Nat) (h : PgIs w B v p) (hB : B ≤ w.heap.size) (ho : p.Ok) (hpok : ∀ f ∈ p.fns, FnOk p f) (k : Nat) (f : FN) (hfk : p.fns[k]? = some f) (hv : Value) (hs : List Int) (T : Int) (hown : OwnN w 0 hv hs) (hfit : Fit (stepsL p f) f.code.length hs) (htop : IsTop (stepsL p f) f.code.length hs T) :
    Calls Tryz.prog 22 #[v, .int .i64 (k : Int), hv, .int .i64 T] w fun e w' => e = .returned (.bool true) ∧ Kept (fun _ => False) w w' := by
  have hpg := h
  have hfm := List.mem_of_getElem? hfk
  have hfo := hpok f hfm
  have hss := steps_ok p f hfo hpok
  obtain ⟨dv, fv, rfl, hd, hdl, hf⟩ := h
  obtain ⟨dao, dc, rfl⟩ := hd.shape
  obtain ⟨fao, fc, rfl⟩ := hf.shape
  obtain ⟨nf, hnf⟩ : ∃ n, n = p.fns.length := ⟨_, rfl⟩
  obtain ⟨nd, hnd⟩ : ∃ n, n = p.data.length := ⟨_, rfl⟩
  obtain ⟨mem, hmem⟩ : ∃ n, n = p.mem := ⟨_, rfl⟩
  rw [← hnf, ← hnd, ← hmem] at hpg ⊢
  rw [← hnf] at hf
  obtain ⟨pg, po, cg, co, cc, rfl, y0, y1, y2, y3, hri, hpgB, hcgB⟩ := row_instr hf hfk (List.getElem?_eq_getElem (show 0 < f.code.length by have := hfo.n.1; omega))
  obtain ⟨nc, hnc⟩ : ∃ z, z = f.code.length := ⟨_, rfl⟩
  obtain ⟨fr, hfr⟩ : ∃ z, z = f.r := ⟨_, rfl⟩
  have hn1 := hfo.n
  rw [← hnc] at y3 hri hn1 hss hfit htop
  rw [← hfr] at y2
  obtain ⟨hg, hc, hvs, _⟩ := own_look hown (show 0 < hs.length by rw [hfit.len]; omega)
  rw [hfit.len] at hvs
  subst hvs
  obtain ⟨gb, hgb⟩ : ∃ g, g = w.heap.size := ⟨_, rfl⟩
  obtain ⟨W, hW⟩ : ∃ W, W = w.alloc (.cells #[.int .i64 mem, .slice dao nd dc, .slice (some ⟨pg, po, none⟩) nf fc] 25) := ⟨_, rfl⟩
  have k1 : Kept (fun _ => False) w W := by rw [hW]; exact (Kept.refl _ _).alloc _
  have x1 : W.heap[gb]? = some (.cells #[.int .i64 mem, .slice dao nd dc, .slice (some ⟨pg, po, none⟩) nf fc] 25 (0, 0)) := by rw [hW, hgb]; exact heap_alloc_new w _
  have hkn : (k : Int) < (nf : Int) := by have := (List.getElem?_eq_some_iff.1 hfk).1; omega
  have hncI : (nc : Int) ≤ 4096 := by omega
  have hnc0 : (0 : Int) < (nc : Int) := by omega
  have HKW := hid_of k1
  have HPG := hid_of hpg
  have HBB := hid_of hB
  have HO := hid_of ho
  have HSS := hid_of hss
  have HFO := hid_of hfo
  have HFK := hid_of hfk
  have HNC := hid_of hnc
  have HFR := hid_of hfr
  have HRI := hid_of hri
  have HY2 := hid_of y2
  have HPO := hid_of hpok
  have HFT := hid_of hfit
  have HTP := hid_of htop
  have c2 := cell_block _ _ 2 _ _ _ x1
  have y3W := k1.cell y3 (fun f => f)
  have hz : W.cell? ⟨hg, 0, none⟩ = some (.int .i64 0) := by
    have h9 := k1.cell (own_int hown hfit.len (show 0 < nc by omega)) (fun f => f)
    rw [hfit.z] at h9
    exact h9
  have hmk := makeBool W nc (by omega)
  obtain ⟨gc, hgc⟩ : ∃ g, g = W.heap.size := ⟨_, rfl⟩
  have hb2 := heap_alloc_new W (.cells (zbool nc) 4)
  rw [← hgc] at hb2
  have k2 : Kept (fun _ => False) W (W.alloc (.cells (zbool nc) 4)) := (Kept.refl _ _).alloc _
  have hA0 : AgK w (W.alloc (.cells (zbool nc) 4)) gb gc nc #[.int .i64 mem, .slice dao nd dc, .slice (some ⟨pg, po, none⟩) nf fc] (.slice (some ⟨hg, 0, none⟩) nc hc) hs (List.replicate nc false) := by
    refine ⟨box_kept k2 x1 (fun f => f), (k1.trans k2).ownsRow hown (fun _ _ f => f), ?_, k1.trans k2, by simp⟩
    exact own_zbool _ w.heap.size gc nc hb2 (by rw [hgc]; exact k1.size) (by omega)
  have hA1 := hA0.set 0
  rw [show (W.alloc (.cells (zbool nc) 4)).setCell ⟨gc, 0, none⟩ (.bool true) = W.alloc (.cells ((zbool nc).setIfInBounds 0 (.bool true)) 4) from World.setCell_alloc_at _ _ _ _ _ hgc] at hA1
  have HA1 := hid_of hA1
  obtain ⟨u0, uf⟩ := hA0.cAt (i := 0) (by omega)
  have HC0 := hid_of (CmI.start hn1.1 hfit)
  rw [hgc] at u0 uf
  have HCN : Hid ((((List.replicate nc false).set 0 true).count false) + true.toNat ≤ nc + 1) := by
    unfold Hid
    have := List.count_le_length (a := false) (l := (List.replicate nc false).set 0 true)
    simp at this
    simp
    omega
  clear x1 k1 k2 y0 y1 y2 y3 hri hd hdl hf hnf hnd hmem ho hB hpg hfm hfo hss hpgB hcgB hnc hfr hfk hpok hfit htop hown hA0 hA1 hb2
  go_enter Tryz.func22, Tryz.ntmps22
  go_upto_region 1 with fail
  rw [← hW, ← hgb]
  clear hW hgb
  go_wp2_with fail
  rw [← hgc]
  clear c2 y3W hmk hz u0 uf hgc
  generalize W.alloc (.cells ((zbool nc).setIfInBounds 0 (.bool true)) 4) = W2 at *
  go_loopg [11, 12] (nc + 1) (fun gk mv av wr => ∃ (most : Int) (a : Bool) (cs : List Bool), mv = .int .i64 most ∧ av = .bool a ∧ Hid (AgK w wr gb gc nc #[.int .i64 mem, .slice dao nd dc, .slice (some ⟨pg, po, none⟩) nf fc] (.slice (some ⟨hg, 0, none⟩) nc hc) hs cs) ∧ Hid (CmI (stepsL p f) nc hs cs most) ∧ Hid (a = false → ∀ j, j < nc → cs.getD j false = true → DoneC (stepsL p f) hs cs most j) ∧ Hid (cs.count false + a.toNat ≤ gk))
  case atStart => exact ⟨0, true, _, rfl, rfl, HA1, HC0, (fun h => by cases h), HCN⟩
  case round =>
    clear HA1 HC0 HCN
    obtain ⟨most, a, cs, rfl, rfl, HAG, HCM, HDN, HCT⟩ := hrel
    cases a with
    | false =>
      as_aux_lemma =>
        have hall := HCM.out.all HSS.out HFT.out (HDN.out rfl)
        have HNO := hid_of hall.1
        have hmt : most = T := hall.2.uniq HTP.out
        clear hall HDN HCT
        subst hmt
        go_wp2_with fail
        go_loop [20] (fun iv => ∃ i : Nat, i ≤ nc ∧ iv = .int .i64 (i : Int)) (fun iv => nc - (intOf iv).toNat)
        case atStart => exact ⟨0, by omega, rfl⟩
        case round =>
          obtain ⟨i, hi, rfl⟩ := hrel
          by_cases hlt : i < nc
          · have hltI : (i : Int) < (nc : Int) := by omega
            obtain ⟨u0, _⟩ := HAG.out.cAt hlt
            have u1 := own_int HAG.out.hh HFT.out.len hlt
            cases hcb : cs.getD i false with
            | true =>
              as_aux_lemma =>
                rw [hcb] at u0
                clear hcb
                go_wp2
                go_round
                case rel => exact ⟨i + 1, by omega, by go_num⟩
                case measure => simp [intOf]; omega
            | false =>
              as_aux_lemma =>
                rw [hcb] at u0
                rw [HNO.out i hlt hcb] at u1
                clear hcb
                go_wp2
                go_round
                case rel => exact ⟨i + 1, by omega, by go_num⟩
                case measure => simp [intOf]; omega
          · have hltI : ¬ ((i : Int) < (nc : Int)) := by omega
            have HKE := hid_of HAG.out.kept
            clear HAG
            go_wp2
            go_ret
            exact ⟨rfl, HKE.out⟩
    | true =>
      as_aux_lemma =>
        clear HDN
        go_wp2_with fail
        go_loopw [11, 12, 13] (fun mv av iv wr => ∃ (i : Nat) (most : Int) (a : Bool) (cs2 : List Bool), i ≤ nc ∧ iv = .int .i64 (i : Int) ∧ mv = .int .i64 most ∧ av = .bool a ∧ Hid (AgK w wr gb gc nc #[.int .i64 mem, .slice dao nd dc, .slice (some ⟨pg, po, none⟩) nf fc] (.slice (some ⟨hg, 0, none⟩) nc hc) hs cs2) ∧ Hid (CmI (stepsL p f) nc hs cs2 most) ∧ Hid (a = false → ∀ j, j < i → cs2.getD j false = true → DoneC (stepsL p f) hs cs2 most j) ∧ Hid (cs2.count false + a.toNat ≤ cs.count false)) (fun _ _ iv _ => nc - (intOf iv).toNat)
        case atStart => exact ⟨0, most, false, cs, by omega, rfl, rfl, rfl, HAG, HCM, (fun _ j hj => absurd hj (by omega)), Nat.le_refl _⟩
        case round =>
          clear HAG HCM
          obtain ⟨i, most2, a, cs2, hi, rfl, rfl, rfl, HAG, HCM, HDN, HC2⟩ := hrel
          by_cases hlt : i < nc
          · have hltI : (i : Int) < (nc : Int) := by omega
            obtain ⟨u0, _⟩ := HAG.out.cAt hlt
            cases hcb : cs2.getD i false with
            | false =>
              as_aux_lemma =>
                rw [hcb] at u0
                have HDN2 : Hid (a = false → ∀ j, j < i + 1 → cs2.getD j false = true → DoneC (stepsL p f) hs cs2 most2 j) := fun ha j hj hcj => by
                  by_cases e : j = i
                  · subst e; rw [hcb] at hcj; cases hcj
                  · exact HDN.out ha j (by omega) hcj
                clear hcb HDN
                go_wp2
                go_roundw
                case rel => exact ⟨i + 1, most2, a, cs2, by omega, by go_num, rfl, rfl, HAG, HCM, HDN2, HC2⟩
                case measure => simp [intOf]; omega
            | true =>
              as_aux_lemma =>
                rw [hcb] at u0
                have hne := HCM.out.rc i hlt hcb
                obtain ⟨x, hx⟩ : ∃ x, f.code[i]? = some x := ⟨_, List.getElem?_eq_getElem (by rw [← HNC.out]; exact hlt)⟩
                have hxm := List.mem_of_getElem? hx
                obtain ⟨z0, z1⟩ := rowI_cell HRI.out hx
                obtain ⟨f1, c1⟩ := HFT.out.ok i _ hlt (steps_at hx) hne
                have hsm := List.mem_of_getElem? (steps_at (p := p) hx)
                obtain ⟨b1, b2, b3⟩ := fault_zero (HSS.out.stb _ hsm) (HSS.out.cp _ hsm) (fun m hm => (HSS.out.nx _ hsm).1 m hm) f1
                have hlo := HFT.out.lo _ (getD_mem (show i < hs.length by rw [HFT.out.len]; exact hlt))
                obtain ⟨ha, hha⟩ : ∃ z, z = hs.getD i 0 := ⟨_, rfl⟩
                rw [← hha] at hne f1 c1 b1 b2 hlo
                rw [fault_iff] at f1
                obtain ⟨fn1, fn2⟩ := f1
                obtain ⟨wt, hwt⟩ : ∃ z, z = wantsS (stepAt p f i x) := ⟨_, rfl⟩
                obtain ⟨bh, hbh⟩ : ∃ z, z = behindS (stepAt p f i x) ha := ⟨_, rfl⟩
                obtain ⟨xo, hxo⟩ : ∃ z, z = x.op := ⟨_, rfl⟩
                obtain ⟨xa, hxa⟩ : ∃ z, z = x.a := ⟨_, rfl⟩
                rw [← hwt, ← hbh, ← hxo, ← HFR.out] at fn1
                rw [← hbh] at c1 b1 b2
                rw [← hxo] at z0
                rw [← hxa] at z1
                obtain ⟨tk, htk⟩ : ∃ z, z = (tkgv p f x).1 := ⟨_, rfl⟩
                obtain ⟨gv, hgv⟩ : ∃ z, z = (tkgv p f x).2 := ⟨_, rfl⟩
                have hrng := tkgv_rng p f x HFO.out HPO.out
                rw [← htk, ← hgv] at hrng
                have HBH : Hid (bh = ha - tk + gv) := by unfold Hid; rw [hbh, htk, hgv]; rfl
                have HHE := hid_of hha
                have HX := hid_of hx
                have HZ0 := hid_of z0
                have HZ1 := hid_of z1
                have HXO := hid_of hxo
                have HST := hid_of (HFO.out.str x hxm)
                have HNW : Hid ((nc : Int) ∉ wayL x i) := fn2
                have HC1 : Hid (∀ m ∈ wayL x i, 0 ≤ m ∧ m < nc ∧ hs.getD m.toNat 0 = bh) := c1
                have HBS : Hid (behindS (stepAt p f i x) (hs.getD i 0) = bh) := by unfold Hid; rw [← hha, ← hbh]
                have HNE := hid_of hne
                have hh0 : (0 : Int) ≤ ha := by omega
                have hTD : takesD p (k : Int) (i : Int) = tkgv p f x := by unfold takesD; rw [instr_at HFK.out hx]
                have HTD := hid_of hTD
                have HTKE := hid_of htk
                have HGVE := hid_of hgv
                have HWE := hid_of hwt
                have HCB := hid_of hcb
                have hx6 := heap_alloc_new wr (.cells #[.int .i64 (k : Int), .int .i64 (i : Int)] 36)
                have HX6 := hid_of hx6
                have HT3 := hid_of (HAG.out.same ((Kept.refl (fun _ => False) _).alloc (.cells #[.int .i64 (k : Int), .int .i64 (i : Int)] 36)))
                clear hcb hx hxm z0 z1 c1 hsm b3 hha hwt hbh hxo hxa htk hgv fn2 hne hTD hx6 HAG
                go_upto_region 15 with fail
                clear u0
                generalize wr.alloc (.cells #[.int .i64 (k : Int), .int .i64 (i : Int)] 36) = w2 at *
                generalize wr.heap.size = gs at *
                have hCT := ctakes_any _ p w2 B (HPG.out.kept HT3.out.kept (fun _ _ f => f)) (Nat.le_trans HBB.out HT3.out.kept.size) HO.out (k : Int) (i : Int)
                rw [HTD.out, ← HTKE.out, ← HGVE.out] at hCT
                have HCTK := hid_of hCT
                have c0 := cell_block _ _ 0 _ _ _ HT3.out.box
                have c1 := cell_block _ _ 1 _ _ _ HT3.out.box
                have c2 := cell_block _ _ 2 _ _ _ HT3.out.box
                have s0 := cell_block _ _ 0 _ _ _ HX6.out
                have s1 := cell_block _ _ 1 _ _ _ HX6.out
                clear hCT
                go_wp2_with fail
                refine HCTK.out.mono ?_
                rintro e w3 ⟨rfl, hk3⟩
                have HT4 := hid_of (HT3.out.same hk3)
                have HX7 := hid_of (box_kept hk3 HX6.out (fun f => f))
                clear c0 c1 c2 s0 s1 hk3 HCTK HT3 HX6
                have d0 := own_int HT4.out.hh HFT.out.len hlt
                rw [← HHE.out] at d0
                go_upto_region 17 with fail
                rw [← HBH.out]
                clear d0
                have HSX : Hid (∀ w', Kept (fun _ => False) w3 w' → w'.cell? ⟨gb, 0, none⟩ = some (.int .i64 mem) ∧ w'.cell? ⟨gb, 1, none⟩ = some (.slice dao nd dc) ∧ w'.cell? ⟨gb, 2, none⟩ = some (.slice (some ⟨pg, po, none⟩) nf fc) ∧ w'.cell? ⟨gs, 0, none⟩ = some (.int .i64 (k : Int)) ∧ w'.cell? ⟨gs, 1, none⟩ = some (.int .i64 (i : Int)) ∧ w'.cell? ⟨hg, i, none⟩ = some (.int .i64 ha) ∧ w'.cell? ⟨cg, co + i * 2, none⟩ = some (.int .i64 xo) ∧ w'.cell? ⟨pg, po + k * 4 + 2, none⟩ = some (.int .i64 fr)) := fun w' hw => by
                  have h9 := HT4.out.same hw
                  have h8 := own_int h9.hh HFT.out.len hlt
                  rw [← HHE.out] at h8
                  exact ⟨cell_block _ _ 0 _ _ _ h9.box, cell_block _ _ 1 _ _ _ h9.box, cell_block _ _ 2 _ _ _ h9.box, hw.cell (cell_block _ _ 0 _ _ _ HX7.out) (fun f => f), hw.cell (cell_block _ _ 1 _ _ _ HX7.out) (fun f => f), h8, h9.kept.cell HZ0.out (fun f => f), h9.kept.cell HY2.out (fun f => f)⟩
                have HWT : Hid (∀ W', Kept (fun _ => False) w3 W' → Calls Tryz.prog 56 #[.agg #[.int .i64 mem, .slice dao nd dc, .slice (some ⟨pg, po, none⟩) nf fc], .agg #[.int .i64 (k : Int), .int .i64 (i : Int)]] W' fun e w' => e = .returned (.int .i64 wt) ∧ Kept (fun _ => False) W' w') := fun W' hW' => by
                  have h9 := HT4.out.same hW'
                  rw [HWE.out]
                  exact lwants_any _ p W' B (HPG.out.kept h9.kept (fun _ _ f => f)) (Nat.le_trans HBB.out h9.kept.size) HO.out k i f x HFK.out HX.out (HSS.out.stb _ (List.mem_of_getElem? (steps_at HX.out))).a
                have hd1 : decide (ha < 0) = false := by simp; omega
                have hd2 : decide (ha < wt) = false := by simp; omega
                have hd3 : decide (256 < bh) = false := by simp; omega
                go_cut [111] from 44 to 161 (fun v111 wx => v111 = .bool false ∧ Hid (Kept (fun _ => False) w3 wx))
                case first =>
                  as_aux_lemma =>
                    by_cases hc3 : xo = 18
                    · have hc4 : ha = fr := by omega
                      have hc4b : (ha != fr) = false := by simpa using hc4
                      have hc3b : (xo == 18) = true := by simpa using hc3
                      clear hc4 hc3 fn1
                      refine wp_region_held_drew (S := fun w' => Kept (fun _ => False) w3 w') (by kernel_rfl) ((Kept.refl _ _).drew) (fun hHeld => ?_)
                      iterate 8
                        refine tkn (v := ?_) 0 rfl ?_ ?_; rotate_left 1
                        · intro w hSw; obtain ⟨a0, a1, a2, b0, b1, d0, e0, r0⟩ := HSX.out w hSw; go_simp; try with_reducible rfl
                        try simp only [Act.put, tdy]
                      iterate 4
                        refine tkn (v := ?_) 9 rfl ?_ ?_; rotate_left 1
                        · intro w hSw; obtain ⟨a0, a1, a2, b0, b1, d0, e0, r0⟩ := HSX.out w hSw; go_simp; try with_reducible rfl
                        try simp only [Act.put, tdy]
                      refine wpAnyH_ready (rs := [8]) (by kernel_rfl) (by simp) ?_
                      refine AllReadyH.cons rfl (fun K hK => ?_) AllReadyH.nil
                      go_simp
                      refine (HWT.out _ hHeld).mono ?_
                      rintro e w4 ⟨rfl, hk4⟩
                      have hkk4 := hHeld.trans hk4
                      refine hK.out _ _ hkk4 (fun hHeld => ?_)
                      clear hK K
                      try simp only [Act.put, tdy]
                      iterate 27
                        refine tkn (v := ?_) 13 rfl ?_ ?_; rotate_left 1
                        · intro w hSw; obtain ⟨a0, a1, a2, b0, b1, d0, e0, r0⟩ := HSX.out w hSw; go_simp; try with_reducible rfl
                        try simp only [Act.put, tdy]
                      refine wpAnyH_done (by kernel_rfl) ?_ _
                      have HKE := hid_of hkk4
                      clear hkk4 hk4 hHeld
                      go_wp2_with fail
                      go_meet
                      exact ⟨rfl, HKE⟩
                    · have hc3b : (xo == 18) = false := by simpa using hc3
                      clear fn1
                      refine wp_region_held_drew (S := fun w' => Kept (fun _ => False) w3 w') (by kernel_rfl) ((Kept.refl _ _).drew) (fun hHeld => ?_)
                      iterate 8
                        refine tkn (v := ?_) 0 rfl ?_ ?_; rotate_left 1
                        · intro w hSw; obtain ⟨a0, a1, a2, b0, b1, d0, e0, r0⟩ := HSX.out w hSw; go_simp; try with_reducible rfl
                        try simp only [Act.put, tdy]
                      iterate 4
                        refine tkn (v := ?_) 9 rfl ?_ ?_; rotate_left 1
                        · intro w hSw; obtain ⟨a0, a1, a2, b0, b1, d0, e0, r0⟩ := HSX.out w hSw; go_simp; try with_reducible rfl
                        try simp only [Act.put, tdy]
                      refine wpAnyH_ready (rs := [8]) (by kernel_rfl) (by simp) ?_
                      refine AllReadyH.cons rfl (fun K hK => ?_) AllReadyH.nil
                      go_simp
                      refine (HWT.out _ hHeld).mono ?_
                      rintro e w4 ⟨rfl, hk4⟩
                      have hkk4 := hHeld.trans hk4
                      refine hK.out _ _ hkk4 (fun hHeld => ?_)
                      clear hK K
                      try simp only [Act.put, tdy]
                      iterate 14
                        refine tkn (v := ?_) 13 rfl ?_ ?_; rotate_left 1
                        · intro w hSw; obtain ⟨a0, a1, a2, b0, b1, d0, e0, r0⟩ := HSX.out w hSw; go_simp; try with_reducible rfl
                        try simp only [Act.put, tdy]
                      iterate 11
                        refine tkm 27 rfl ?_
                        try simp only [Act.put, tdy]
                      iterate 2
                        refine tkn (v := ?_) 38 rfl ?_ ?_; rotate_left 1
                        · intro w hSw; obtain ⟨a0, a1, a2, b0, b1, d0, e0, r0⟩ := HSX.out w hSw; go_simp; try with_reducible rfl
                        try simp only [Act.put, tdy]
                      refine wpAnyH_done (by kernel_rfl) ?_ _
                      have HKE := hid_of hkk4
                      clear hkk4 hk4 hHeld
                      go_wp2_with fail
                      go_meet
                      exact ⟨rfl, HKE⟩
                case rest =>
                  as_aux_lemma =>
                    obtain ⟨rfl, HK4⟩ := hcut
                    obtain ⟨w4, hw4⟩ : ∃ w, w = wc := ⟨_, rfl⟩
                    subst hw4
                    have HT5 := hid_of (HT4.out.same HK4.out)
                    obtain ⟨a0, a1, a2, b0, b1', d0, e0, r0⟩ := HSX.out _ HK4.out
                    have hmx := fun W => run_max3 W most2 ha bh
                    have HNX := hid_of (cnext_any _ p w4 B (HPG.out.kept HT5.out.kept (fun _ _ f => f)) (Nat.le_trans HBB.out HT5.out.kept.size) HO.out (k : Int) (i : Int))
                    have HMG : Hid (max2 (max2 most2 ha) bh = max2 (max2 most2 (hs.getD i 0)) (behindS (stepAt p f i x) (hs.getD i 0))) := by unfold Hid; rw [HBS.out, ← HHE.out]
                    obtain ⟨most3, hm3⟩ : ∃ z, z = max2 (max2 most2 ha) bh := ⟨_, rfl⟩
                    rw [← hm3] at hmx HMG
                    have HCM3 : Hid (CmI (stepsL p f) nc hs cs2 most3) := by
                      unfold Hid
                      rw [HMG.out]
                      exact HCM.out.most hlt (steps_at HX.out) (by rw [← HHE.out]; exact HNE.out) (by rw [← HHE.out]; omega) (by rw [HBS.out]; omega)
                    have HGE : Hid (most2 ≤ most3 ∧ ha ≤ most3 ∧ bh ≤ most3) := by
                      have g1 := max2_ge most2 ha
                      have g2 := max2_ge (max2 most2 ha) bh
                      unfold Hid
                      rw [hm3]
                      omega
                    clear hm3 HCM HMG hd1 hd2 hd3 fn1
                    go_wp2_with fail
                    refine HNX.out.mono ?_
                    rintro e w5 ⟨lv, rfl, hlv, hk5⟩
                    have HNE2 : Hid (nextD p (k : Int) (i : Int) = wayL x i) := next_way (instr_at HFK.out HX.out) HST.out (by rw [← HNC.out]; exact hlt) (by rw [← HNC.out]; exact HNW.out)
                    obtain ⟨ms, hms⟩ : ∃ z, z = wayL x i := ⟨_, rfl⟩
                    rw [HNE2.out, ← hms] at hlv
                    have HMS := hid_of hms
                    have hml : ms.length ≤ 2 := by rw [hms]; exact way_len x i
                    obtain ⟨lao, lc, hls⟩ := ownsRow_shape hlv
                    obtain ⟨nl, hnl⟩ : ∃ z, z = ms.length := ⟨_, rfl⟩
                    rw [← hnl] at hls hml
                    subst hls
                    have HNL := hid_of hnl
                    have HLV := hid_of hlv
                    have HT6 := hid_of (HT5.out.same hk5)
                    have z0w := HT6.out.kept.cell HZ0.out (fun f => f)
                    have z1w := HT6.out.kept.cell HZ1.out (fun f => f)
                    have HEN := hid_of (ends_any xo xa w5)
                    have HNZ : Hid (endsP xo = false → nl ≠ 0) := fun he h0 => by
                      have h9 : ms = [] := List.length_eq_zero_iff.1 (by rw [← hnl]; exact h0)
                      rw [hms] at h9
                      rw [HXO.out] at he
                      unfold endsP at he
                      unfold wayL at h9
                      have : ¬ (x.op = 1 ∨ x.op = 2 ∨ x.op = 18) := of_decide_eq_false he
                      rw [if_neg this] at h9
                      split at h9
                      · cases h9
                      · split at h9
                        · split at h9
                          · cases h9
                          · split at h9 <;> cases h9
                        · cases h9
                    clear hlv hnl hms hk5 HNX a0 a1 a2 b0 b1' d0 e0 r0 hmx HSX HWT HT5 HT4
                    go_upto_region 21 with fail
                    go_cut [132] from 44 to 161 (fun v132 wx => v132 = .bool false ∧ Hid (Kept (fun _ => False) w5 wx))
                    case first =>
                      as_aux_lemma =>
                        cases hend : endsP xo with
                        | true =>
                          as_aux_lemma =>
                            rw [hend] at HEN
                            clear hend HNZ
                            go_wp2_with fail
                            refine HEN.out.mono ?_
                            rintro e w6 ⟨rfl, hk6⟩
                            have HK6 := hid_of hk6
                            clear hk6 HEN
                            go_wp2_with fail
                            go_meet
                            exact ⟨rfl, HK6⟩
                        | false =>
                          as_aux_lemma =>
                            have hnz := HNZ.out hend
                            have hnzb : ((nl : Int) == 0) = false := by simp; omega
                            rw [hend] at HEN
                            clear hend HNZ hnz
                            go_wp2_with fail
                            refine HEN.out.mono ?_
                            rintro e w6 ⟨rfl, hk6⟩
                            have HK6 := hid_of hk6
                            clear hk6 HEN
                            go_wp2_with fail
                            go_meet
                            exact ⟨rfl, HK6⟩
                    case rest =>
                      as_aux_lemma =>
                        obtain ⟨rfl, HK6⟩ := hcut
                        obtain ⟨w6, hw6⟩ : ∃ w, w = wc := ⟨_, rfl⟩
                        subst hw6
                        have HT8 := hid_of (HT6.out.same HK6.out)
                        have HLW : Hid (OwnN w6 w4.heap.size (.slice lao nl lc) ms) := HK6.out.ownsRow HLV.out (fun _ _ f => f)
                        clear HEN z0w z1w HNZ HT6 HK6 HLV
                        go_wp2_with fail
                        go_loopw [12, 19] (fun av kv wr => ∃ (j : Nat) (a3 : Bool) (cs3 : List Bool), j ≤ nl ∧ kv = .int .i64 (j : Int) ∧ av = .bool a3 ∧ Hid (AgK w wr gb gc nc #[.int .i64 mem, .slice dao nd dc, .slice (some ⟨pg, po, none⟩) nf fc] (.slice (some ⟨hg, 0, none⟩) nc hc) hs cs3) ∧ Hid (CmI (stepsL p f) nc hs cs3 most3) ∧ Hid (∀ m ∈ ms.take j, cs3.getD m.toNat false = true) ∧ Hid (a3 = false → cs3 = cs2 ∧ a = false) ∧ Hid (cs3.count false + a3.toNat ≤ cs.count false) ∧ Hid (OwnN wr w4.heap.size (.slice lao nl lc) ms)) (fun _ kv _ => nl - (intOf kv).toNat)
                        case atStart => exact ⟨0, a, cs2, by omega, rfl, rfl, HT8, HCM3, (fun m hm => by simp at hm), (fun h => ⟨rfl, h⟩), HC2, HLW⟩
                        case round =>
                          clear HT8 HCM3 HLW
                          obtain ⟨j, a3, cs3, hj, rfl, rfl, HT8, HCM3, HTK3, HEQ, HC3, HLW⟩ := hrel
                          by_cases hltj : j < nl
                          · have hltjI : (j : Int) < (nl : Int) := by omega
                            have hjm : j < ms.length := by rw [← HNL.out]; exact hltj
                            obtain ⟨m, hm⟩ : ∃ m, ms[j]? = some m := ⟨_, List.getElem?_eq_getElem hjm⟩
                            have hmm := List.mem_of_getElem? hm
                            obtain ⟨m0, m1, m2⟩ := HC1.out m (by rw [← HMS.out]; exact hmm)
                            obtain ⟨mq, hmq⟩ : ∃ q : Nat, m = (q : Int) := ⟨m.toNat, by omega⟩
                            subst hmq
                            simp only [Int.toNat_natCast] at m2
                            have hmqn : mq < nc := by omega
                            have hmqI : (mq : Int) < (nc : Int) := by omega
                            obtain ⟨lg, lcc, elv, t0⟩ := own_look HLW.out hjm
                            rw [← HNL.out] at elv
                            simp only [Value.slice.injEq] at elv
                            obtain ⟨rfl, _, rfl⟩ := elv
                            have hmg : ms.getD j 0 = (mq : Int) := by simp [List.getD, hm]
                            rw [hmg] at t0
                            have t1 := own_int HT8.out.hh HFT.out.len hmqn
                            rw [m2] at t1
                            obtain ⟨t2, tf⟩ := HT8.out.cAt hmqn
                            have HTA : Hid (ms.take (j + 1) = ms.take j ++ [(mq : Int)]) := by unfold Hid; rw [List.take_add_one, hm]; rfl
                            have HM2 : Hid (hs.getD mq 0 ≠ -1) := by unfold Hid; rw [m2]; omega
                            have hcl3 : mq < cs3.length := by rw [HCM3.out.len]; exact hmqn
                            have HCL3 := hid_of hcl3
                            clear hm hmm m0 m1 m2 hmg hjm hcl3
                            cases hcb : cs3.getD mq false with
                            | true =>
                              as_aux_lemma =>
                                rw [hcb] at t2
                                have HTK4 : Hid (∀ m ∈ ms.take (j + 1), cs3.getD m.toNat false = true) := fun m hm => by
                                  rw [HTA.out] at hm
                                  rcases List.mem_append.1 hm with hm | hm
                                  · exact HTK3.out m hm
                                  · simp at hm; subst hm; simpa using hcb
                                clear hcb HTK3 HTA
                                go_wp2
                                go_roundw
                                case rel => exact ⟨j + 1, a3, cs3, by omega, by go_num, rfl, HT8, HCM3, HTK4, HEQ, HC3, HLW⟩
                                case measure => simp [intOf]; omega
                            | false =>
                              as_aux_lemma =>
                                rw [hcb] at t2
                                have HT9 := hid_of (HT8.out.set mq)
                                have HCM4 := hid_of (HCM3.out.set hmqn HM2.out)
                                have HTK4 : Hid (∀ m ∈ ms.take (j + 1), (cs3.set mq true).getD m.toNat false = true) := fun m hm => by
                                  rw [HTA.out] at hm
                                  rcases List.mem_append.1 hm with hm | hm
                                  · exact set_mono HCL3.out _ (HTK3.out m hm)
                                  · simp at hm; subst hm; rw [getB_set HCL3.out]; simp
                                have HC4 : Hid ((cs3.set mq true).count false + true.toNat ≤ cs.count false) := by
                                  unfold Hid
                                  have h9 := count_set HCL3.out hcb
                                  have h8 := HC3.out
                                  simp
                                  omega
                                have HLW4 := hid_of (HT8.out.list HLW.out mq)
                                clear hcb HTK3 HTA HT8 HCM3 HC3 HLW HEQ
                                go_wp2
                                go_roundw
                                case rel => exact ⟨j + 1, true, _, by omega, by go_num, rfl, HT9, HCM4, HTK4, (fun h => by cases h), HC4, HLW4⟩
                                case measure => simp [intOf]; omega
                          · have hltjI : ¬ ((j : Int) < (nl : Int)) := by omega
                            have HDN3 : Hid (a3 = false → ∀ q, q < i + 1 → cs3.getD q false = true → DoneC (stepsL p f) hs cs3 most3 q) := fun h3 q hq hcq => by
                              obtain ⟨e1, e2⟩ := HEQ.out h3
                              by_cases e : q = i
                              · subst e
                                intro s hs1
                                rw [steps_at HX.out] at hs1
                                cases hs1
                                refine ⟨by rw [← HHE.out]; exact HGE.out.2.1, by rw [HBS.out]; exact HGE.out.2.2, fun m hm => HTK3.out m ?_⟩
                                rw [List.take_of_length_le (by have := HNL.out; omega), HMS.out]
                                exact hm
                              · have h9 := HDN.out e2 q (by omega) (by rw [← e1]; exact hcq)
                                exact h9.mono HGE.out.1 (fun i hi => by rw [e1]; exact hi)
                            clear HTK3 HEQ HDN HLW
                            go_wp2
                            go_roundw
                            case rel => exact ⟨i + 1, most3, a3, cs3, by omega, by go_num, rfl, rfl, HT8, HCM3, HDN3, HC3⟩
                            case measure => simp [intOf]; omega
          · have hltI : ¬ ((i : Int) < (nc : Int)) := by omega
            have HDN2 : Hid (a = false → ∀ j, j < nc → cs2.getD j false = true → DoneC (stepsL p f) hs cs2 most2 j) := fun ha j hj => HDN.out ha j (by omega)
            have HC3 : Hid (cs2.count false + a.toNat ≤ gk - 1) := by
              have h1 := HCT.out
              have h2 := HC2.out
              simp at h1
              unfold Hid
              omega
            have HGK : Hid (1 ≤ gk) := by
              have h1 := HCT.out
              simp at h1
              unfold Hid
              omega
            clear HDN HC2 HCT
            go_wp2
            go_roundg (gk - 1)
            case measure => have := HGK.out; omega
            case rel => exact ⟨most2, a, cs2, rfl, rfl, HAG, HCM, HDN2, HC3⟩
end Go.Proofs.YtcaadgcfceommaaGreat

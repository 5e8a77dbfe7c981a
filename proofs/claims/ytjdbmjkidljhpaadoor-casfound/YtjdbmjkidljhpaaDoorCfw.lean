/-
  CasFound: the walk.
-/
import Derived.Test.YtjdbmjkidljhpaaDoorCf2
namespace Go.Proofs.YtjdbmjkidljhpaaDoor
open Go.RowKit
set_option linter.unusedVariables false
set_option linter.unusedSimpArgs false
set_option maxRecDepth 100000

set_option maxHeartbeats 16000000 in
theorem cfound_walk (x y : Int) (v : Value) (ts : List Stp) (W : World) (hx0 : -9223372036854775808 ≤ x) (hx1 : x ≤ 9223372036854775807) (hy0 : -9223372036854775808 ≤ y) (hy1 : y ≤ 9223372036854775807) (hL : Laid W) (ht : TIs W v ts) :
    Calls Tryd.prog 3 #[.int .i64 x, .int .i64 y, v] W fun e w' => e = .returned (.bool true) ∧ Kept (fun _ => False) W w' := by
  obtain ⟨ao, cap, hv, hlm, _⟩ := id ht
  subst hv
  obtain ⟨k, hk⟩ : ∃ k : Nat, 1 + x % 32 = (k : Int) := ⟨(1 + x % 32).toNat, by omega⟩
  have h1 : 1 ≤ k := by omega
  have h2 : k ≤ 32 := by omega
  have hL0 := hL.size
  have HL := hid_of hL
  have HT := hid_of ht
  have HFR := hid_of (fresh_full x y W hx0 hx1 hy0 hy1)
  rw [hk] at HFR
  have hcp : y % 67108865 ≤ 67108864 := by omega
  generalize y % 67108865 = cp at *
  clear hk hL ht
  go_enter Tryd.func3, Tryd.ntmps3
  go_wp2_with fail
  refine HFR.out.mono ?_
  rintro e w1 ⟨rfl, rfl⟩
  have HI : Hid (Inv W (W.alloc (.cells ((Sg.new (k : Int) cp).cells (.map none)) 63)) W.heap.size k 0 0 (.slice none 0 0) (.map none) (Sg.new (k : Int) cp) []) :=
    ⟨stor_new W k cp, sane_new k cp hcp, fun r hr => (by cases hr), World.ownsRow_nil _ _ _ _, fun p hp => (by cases hp), Nat.le_refl _, fun p hp => (by cases hp), (Kept.refl _ W).alloc _, Nat.le_refl _, fun g hg => (by cases hg), fun p hp => (by cases hp)⟩
  generalize W.alloc (.cells ((Sg.new (k : Int) cp).cells (.map none)) 63) = w1 at *
  clear HFR
  go_wp2
  go_loopw [8, 9] (fun lv i wr => ∃ (j : Nat) (mv : Value) (σ : Sg) (ps : List Pt), j ≤ ts.length ∧ j ≤ 300 ∧ i = .int .i64 j ∧ Inv W wr W.heap.size k (1000 * j) j lv mv σ ps) (fun _ i _ => ts.length - (intOf i).toNat)
  case atStart => exact ⟨0, _, _, _, by omega, by omega, rfl, HI.out⟩
  case round =>
    clear HI
    obtain ⟨j, mv, σ, ps, hj, hj3, rfl, hI⟩ := hrel
    have HI := hid_of hI
    by_cases hlt : j < ts.length ∧ j < 300
    · obtain ⟨t, htj⟩ : ∃ t, ts[j]? = some t := ⟨_, List.getElem?_eq_getElem hlt.1⟩
      obtain ⟨ao', cap', hv', _, hall⟩ := HT.out.stays hI.kp
      cases hv'
      obtain ⟨hOk, g, o, hao, hr⟩ := hall j t htj
      subst hao
      have hjI : (j : Int) < (ts.length : Int) := by omega
      have hj3I : (j : Int) < 300 := by omega
      have hi30 : (Tryd.prog.info? 30).map (·.size) = some t.cells.length := by rw [Stp.clen hOk.dl]; exact info30
      have hi30' : (Tryd.prog.info? 30).map (·.size) = some t.cells.toArray.size := by rw [List.size_toArray]; exact hi30
      have hone := Stp.one hOk
      have HOS : Hid (37 = t.cells.toArray.size) := by show 37 = _; rw [List.size_toArray, Stp.clen hOk.dl]
      have HR := hid_of hr
      have HOK := hid_of hOk
      have HTJ := hid_of htj
      have hLT := hlt
      obtain ⟨bo, bc, hbv, _, _⟩ := id hOk.bb
      obtain ⟨co, cc, hcv, _, _⟩ := id hOk.cb
      have hAT := Stp.at (w := wr.alloc (.cells t.cells.toArray 30)) hOk.dl (alloc_new wr _ rfl)
      have hc0 : t.cells[0]? = some (.int .i64 t.kd) := rfl
      have hc1 : t.cells[1]? = some (.slice bo t.xs.length bc) := by show some t.bv = _; rw [hbv]
      have hc2 : t.cells[2]? = some (.slice co t.ys.length cc) := by show some t.cv = _; rw [hcv]
      have hc35 : t.cells[35]? = some (.bool t.own) := by
        show (t.d.map (Value.int .u8) ++ [.bool t.own, .int .i64 t.n])[32]? = _
        rw [List.getElem?_append_right (by simp [hOk.dl])]
        simp [hOk.dl]
      have hc36 : t.cells[36]? = some (.int .i64 t.n) := by
        show (t.d.map (Value.int .u8) ++ [.bool t.own, .int .i64 t.n])[33]? = _
        rw [List.getElem?_append_right (by simp [hOk.dl])]
        simp [hOk.dl]
      have HBV := hid_of hbv
      have HCV := hid_of hcv
      have HRD := hid_of hAT.2.2.2.1
      have hi28 := size28_list t.d hOk.dl
      have hds := size28_of t.d hOk.dl
      have honed := oneCells .u8 t.d
      have HOD : Hid (32 = (t.d.map (Value.int .u8)).toArray.size) := by show 32 = _; simp [hOk.dl]
      have HIA : Hid (Inv W (wr.alloc (.cells t.cells.toArray 30)) W.heap.size k (1000 * j) j u8 mv σ ps) := hI.quiet ((Kept.refl _ wr).alloc _)
      clear hall hr hOk htj hI hlt hbv hcv hAT
      by_cases hB8 : (8192 : Int) < (t.xs.length : Int)
      · go_wp2_with (first | (refine wpList_load_mid rfl 30 _ rfl g (o + j * 37) rfl t.cells _ HR.out Tryd.underlying30 rfl hi30 ?_) | (refine wpList_store_row rfl 30 _ _ rfl wr.heap.size t.cells.toArray rfl rfl 30 _ (alloc_new _ _ rfl) hi30' HOS.out hone ?_; rw [setRow_new _ _ _ _ rfl]))
        go_roundw
        case rel => exact ⟨j + 1, mv, σ, ps, by omega, by omega, by go_num, HIA.out.more (by omega) (by omega)⟩
        case measure => simp [intOf]; omega
      by_cases hC8 : (8192 : Int) < (t.ys.length : Int)
      · go_wp2_with (first | (refine wpList_load_mid rfl 30 _ rfl g (o + j * 37) rfl t.cells _ HR.out Tryd.underlying30 rfl hi30 ?_) | (refine wpList_store_row rfl 30 _ _ rfl wr.heap.size t.cells.toArray rfl rfl 30 _ (alloc_new _ _ rfl) hi30' HOS.out hone ?_; rw [setRow_new _ _ _ _ rfl]))
        go_roundw
        case rel => exact ⟨j + 1, mv, σ, ps, by omega, by omega, by go_num, HIA.out.more (by omega) (by omega)⟩
        case measure => simp [intOf]; omega
      have HOKB : Hid (∀ w' : World, Kept (fun _ => False) W w' → t.Ok w') := fun w' hw' => by
        obtain ⟨ao', cap', hv', _, hall⟩ := HT.out.stays hw'
        cases hv'
        exact (hall j t HTJ.out).1
      obtain ⟨own, hown⟩ : ∃ b, b = t.own := ⟨_, rfl⟩
      rw [← hown] at hc35
      have HOWN := hid_of hown
      clear hown
      have HB10 : Hid (((wr.alloc (Obj.cells t.cells.toArray 30)).alloc (Obj.cells (List.map (Value.int IntKind.u8) t.d).toArray 28)).heap[wr.heap.size]? = some (.cells t.cells.toArray 30 (0, 0))) := ((((Kept.refl (fun _ => False) (wr.alloc (.cells t.cells.toArray 30))).alloc (Obj.cells (List.map (Value.int IntKind.u8) t.d).toArray 28)).block wr.heap.size (by simp) (fun f => f)).trans (alloc_new wr _ rfl) :)
      have HB11 : Hid (((wr.alloc (Obj.cells t.cells.toArray 30)).alloc (Obj.cells (List.map (Value.int IntKind.u8) t.d).toArray 28)).heap[wr.heap.size + 1]? = some (.cells (List.map (Value.int IntKind.u8) t.d).toArray 28 (0, 0))) := alloc_new _ _ (by simp)
      have HIB : Hid (Inv W ((wr.alloc (Obj.cells t.cells.toArray 30)).alloc (Obj.cells (List.map (Value.int IntKind.u8) t.d).toArray 28)) W.heap.size k (1000 * j) j u8 mv σ ps) := HIA.out.quiet ((Kept.refl _ _).alloc _)
      have HKB : Hid (Kept (fun _ => False) wr ((wr.alloc (Obj.cells t.cells.toArray 30)).alloc (Obj.cells (List.map (Value.int IntKind.u8) t.d).toArray 28))) := ((Kept.refl _ wr).alloc _).alloc _
      have hslw : W.heap.size < wr.heap.size := HI.out.st.lt
      go_upto_if 49 with (first | (refine wpList_load_mid rfl 30 _ rfl g (o + j * 37) rfl t.cells _ HR.out Tryd.underlying30 rfl hi30 ?_) | (refine wpList_store_row rfl 30 _ _ rfl wr.heap.size t.cells.toArray rfl rfl 30 _ (alloc_new _ _ rfl) hi30' HOS.out hone ?_; rw [setRow_new _ _ _ _ rfl]) | (refine wpList_load_mid rfl 28 _ rfl wr.heap.size 3 rfl (t.d.map (Value.int .u8)) _ HRD.out Tryd.underlying28 rfl hi28 ?_) | (refine wpList_store_row rfl 28 _ _ rfl (wr.heap.size + 1) (t.d.map (Value.int .u8)).toArray rfl rfl 28 _ (alloc_new _ _ (by simp)) hds HOD.out honed ?_; rw [setRow_new _ _ _ _ (by simp)]))
      generalize ((wr.alloc (Obj.cells t.cells.toArray 30)).alloc (Obj.cells (List.map (Value.int IntKind.u8) t.d).toArray 28)) = wB at *
      clear hc0 hc1 hc2 hc35 hc36 HIA HRD HOD hi28 hds honed HR hi30 hi30' hone HOS
      go_cut [11] from 22 to 138 (fun v11 wx => v11 = .pointer (some ⟨wr.heap.size + 1, 0, none⟩) ∧ ∃ dd : List Int, dd.length = 32 ∧ (∀ x ∈ dd, 0 ≤ x ∧ x < 256) ∧ wx.heap[wr.heap.size + 1]? = some (.cells (dd.map (Value.int .u8)).toArray 28 (0, 0)) ∧ wx.heap[wr.heap.size]? = some (.cells t.cells.toArray 30 (0, 0)) ∧ Inv W wx W.heap.size k (1000 * j) j u8 mv σ ps)
      case first =>
        cases own with
        | true =>
          have hA1 := (Stp.at HOK.out.dl HB10.out).2.1
          rw [HBV.out] at hA1
          have HWD := hid_of (fun w' (hS : Stor w' W.heap.size mv σ) => width_any hS)
          rw [HIB.out.sane.wd] at HWD
          have hbb := (HOKB.out wB HIB.out.kp).bb
          rw [HBV.out] at hbb
          have HBB := hid_of hbb
          have HOF : Hid (∀ W', BIn W' (.slice bo t.xs.length bc) t.xs → Calls Tryd.prog 8 #[.int .i64 (k : Int), .slice bo t.xs.length bc] W' fun e w' => e = .returned (dv (frontOf k t.xs)) ∧ Kept (fun _ => False) W' w') := fun W' hW => rof4_any k h1 h2 _ t.xs W' hW HOK.out.br (by omega)
          unfold dv at HOF
          have HFL : Hid ((frontOf k t.xs).length = 32) := frontOf_len k t.xs h2
          have HFR : Hid (∀ x ∈ frontOf k t.xs, 0 ≤ x ∧ x < 256) := front_range k t.xs h2
          generalize frontOf k t.xs = fr at *
          have hdf := size28_of fr HFL.out
          have honf := oneCells .u8 fr
          have HOF2 : Hid ((List.map (Value.int IntKind.u8) t.d).toArray.size = (fr.map (Value.int .u8)).toArray.size) := by show _ = _; simp [HOK.out.dl, HFL.out]
          clear hbb
          have HC1 := hid_of hA1
          clear hA1
          go_wp2
          refine wp_region_held_drew (S := fun w' => w'.cell? ⟨wr.heap.size, 1, none⟩ = some (.slice bo t.xs.length bc)) (by kernel_rfl) HC1.out (fun hHeld => ?_)
          refine wpAnyH_take (i := 0) (v := ?_) rfl (by kernel_rfl) (by kernel_rfl) (by kernel_rfl) (fun _ _ _ h => h) (Or.inl ⟨by rfl, ?_⟩) (by assumption) ?_
          rotate_left 1
          · intro w hSw
            go_simp
            try with_reducible rfl
          try simp only [Act.put, List.getElem_toArray, List.getElem_cons_zero, List.getElem_cons_succ, List.setIfInBounds_toArray, List.set_cons_zero, List.set_cons_succ]
          refine wpAnyH_take (i := 2) (v := ?_) rfl (by kernel_rfl) (by kernel_rfl) (by kernel_rfl) (fun _ _ _ h => h) (Or.inl ⟨by rfl, ?_⟩) (by assumption) ?_
          rotate_left 1
          · intro w hSw
            go_simp
            try with_reducible rfl
          try simp only [Act.put, List.getElem_toArray, List.getElem_cons_zero, List.getElem_cons_succ, List.setIfInBounds_toArray, List.set_cons_zero, List.set_cons_succ]
          refine wpAnyH_take (i := 3) (v := ?_) rfl (by kernel_rfl) (by kernel_rfl) (by kernel_rfl) (fun _ _ _ h => h) (Or.inl ⟨by rfl, ?_⟩) (by assumption) ?_
          rotate_left 1
          · intro w hSw
            go_simp
            try with_reducible rfl
          try simp only [Act.put, List.getElem_toArray, List.getElem_cons_zero, List.getElem_cons_succ, List.setIfInBounds_toArray, List.set_cons_zero, List.set_cons_succ]
          refine wpAnyH_ready (rs := [1]) (by kernel_rfl) (by simp) ?_
          refine AllReadyH.cons rfl (fun K hK => ?_) AllReadyH.nil
          go_simp
          refine (HWD.out wB.drew (HIB.out.st.kept (Kept.refl (fun _ => False) wB).drew (fun _ _ f => f))).mono ?_
          rintro e w' ⟨rfl, hw'⟩
          have hw'' := hw'.symm
          clear hw'
          subst hw''
          refine hK.out _ _ HC1.out (fun hHeld => ?_)
          clear hK K
          try simp only [Act.put, List.getElem_toArray, List.getElem_cons_zero, List.getElem_cons_succ, List.setIfInBounds_toArray, List.set_cons_zero, List.set_cons_succ]
          refine wpAnyH_ready (rs := [4]) (by kernel_rfl) (by simp) ?_
          refine AllReadyH.cons rfl (fun K hK => ?_) AllReadyH.nil
          go_simp
          refine (HOF.out wB.drew (HBB.out.kept2 (Kept.refl (fun _ => False) wB).drew (fun _ _ _ f => f))).mono ?_
          rintro e wO ⟨rfl, hkO⟩
          have hkO' : Kept (fun _ => False) wB wO := (Kept.refl _ wB).drew.trans hkO
          have HKO := hid_of (HKB.out.trans hkO')
          have HO10 := hid_of ((hkO'.block _ (heap_lt HB10.out) (fun f => f)).trans HB10.out)
          have HO11 := hid_of ((hkO'.block _ (heap_lt HB11.out) (fun f => f)).trans HB11.out)
          have HC2 : Hid (wO.cell? ⟨wr.heap.size, 1, none⟩ = some (.slice bo t.xs.length bc)) := hkO'.cell HC1.out (fun f => f)
          clear hkO hkO'
          refine hK.out _ _ HC2.out (fun hHeld => ?_)
          clear hK K
          try simp only [Act.put, List.getElem_toArray, List.getElem_cons_zero, List.getElem_cons_succ, List.setIfInBounds_toArray, List.set_cons_zero, List.set_cons_succ]
          refine wpAnyH_ready (rs := [5]) (by kernel_rfl) (by simp) ?_
          refine AllReadyH.cons rfl (fun K hK => ?_) AllReadyH.nil
          refine stp_store_row rfl 28 _ _ rfl (wr.heap.size + 1) (fr.map (Value.int .u8)).toArray rfl rfl 28 _ HO11.out hdf HOF2.out honf ?_
          have HP := hid_of (own_row HI.out HKO.out HO10.out HO11.out (fr.map (Value.int .u8)).toArray)
          have HC3 : Hid ((wO.setRow (wr.heap.size + 1) (List.map (Value.int IntKind.u8) fr).toArray).cell? ⟨wr.heap.size, 1, none⟩ = some (.slice bo t.xs.length bc)) := by
            have := (Stp.at HOK.out.dl HP.out.1).2.1
            rw [HBV.out] at this
            exact this
          generalize hwS : (wO.setRow (wr.heap.size + 1) (List.map (Value.int IntKind.u8) fr).toArray) = wS at *
          refine hK.out _ _ HC3.out (fun hHeld => ?_)
          clear hK K
          try simp only [Act.put, List.getElem_toArray, List.getElem_cons_zero, List.getElem_cons_succ, List.setIfInBounds_toArray, List.set_cons_zero, List.set_cons_succ]
          refine wpAnyH_done (by kernel_rfl) ?_ _
          go_wp2
          go_meet
          case rel => exact ⟨rfl, fr, HFL.out, HFR.out, HP.out.2.1, HP.out.1, HP.out.2.2⟩
        | false =>
          go_wp2
          go_meet
          case rel => exact ⟨rfl, t.d, HOK.out.dl, HOK.out.dr, HB11.out, HB10.out, HIB.out⟩
      case rest =>
        clear HB10 HB11 HIB HKB
        obtain ⟨rfl, dd, hdl, hdr, hb11, hb10, hib⟩ := hcut
        have HB11 := hid_of hb11
        have HB10 := hid_of hb10
        have HIB := hid_of hib
        have HDL := hid_of hdl
        have HDR := hid_of hdr
        obtain ⟨hc0, hc1, hc2, _, _, hc36⟩ := Stp.at HOK.out.dl hb10
        rw [HBV.out] at hc1
        rw [HCV.out] at hc2
        have hds := size28_of dd hdl
        clear hb11 hb10 hib hdl hdr
        by_cases hk7 : t.kd = 7
        · have hkd := hk7
          clear hk7
          have hK1 : (t.kd == 1) = false := by rw [hkd]; rfl
          have hK6 : (t.kd == 6) = false := by rw [hkd]; rfl
          have hK5 : (t.kd == 5) = false := by rw [hkd]; rfl
          have hK7 : (t.kd == 7) = true := by rw [hkd]; rfl
          have hK2 : (t.kd == 2) = false := by rw [hkd]; rfl
          have HKD := hid_of hkd
          clear hkd
          go_wp2_with fail
          refine (limit_any HIB.out.st t.n).mono ?_
          rintro e' wL ⟨q, σ', rfl, hSL, hσL, hkL⟩
          have HIL : Hid (Inv W wL W.heap.size k (1000 * j) j u8 mv σ' ps) := HIB.out.after ⟨hSL, kept_of_s hkL, .inl rfl, by rcases hσL with h7 | ⟨_, h7, h8⟩; rw [h7]; exact HIB.out.sane; rw [h8]; exact HIB.out.sane.limit t.n h7, by rcases hσL with h7 | ⟨_, _, h7⟩ <;> (rw [h7]; exact fun e he => .inl he)⟩ (by rcases hσL with h7 | ⟨_, _, h7⟩; rw [h7]; exact HIB.out.holds; rw [h7]; exact HIB.out.holds)
          clear hSL hσL hkL
          go_upto_region 33 with fail
          by_cases h87 : (j : Int) % 8 = 7
          · go_wp2_with fail
            have hfew := HIL.out.few
            have hsn := HIL.out.sane
            have hg2 := hsn.gt
            have hp2 := hsn.pt
            have HFD := hid_of (found_any HIL.out.st (laid_kept HL.out HIL.out.kp (fun f => f)) (by omega) k hsn.wd h1 h2 u8 _ HIL.out.pis HIL.out.holds hg2.1 (by omega) hp2.1 (by omega) (by omega))
            have hsg := hsn.gp ps.length
            clear hsn hg2 hp2
            refine HFD.out.mono ?_
            rintro e' wF ⟨rfl, hSF, hkF⟩
            have HIF := hid_of (HIL.out.after (mv' := mv) (σ' := σ'.gp ps.length) ⟨hSF, kept_of_s hkF, .inl rfl, hsg, fun e he => .inl he⟩ HIL.out.holds)
            clear hSF hkF HFD hsg
            go_wp2
            go_roundw
            case rel => exact ⟨j + 1, _, _, _, by omega, by omega, by go_num, HIF.out.more (by omega) (by omega)⟩
            case measure => simp [intOf]; omega
          · go_wp2
            go_roundw
            case rel => exact ⟨j + 1, _, _, _, by omega, by omega, by go_num, HIL.out.more (by omega) (by omega)⟩
            case measure => simp [intOf]; omega
        by_cases hk5 : t.kd = 5
        · have hkd := hk5
          clear hk5
          have hK1 : (t.kd == 1) = false := by rw [hkd]; rfl
          have hK6 : (t.kd == 6) = false := by rw [hkd]; rfl
          have hK5 : (t.kd == 5) = true := by rw [hkd]; rfl
          have hK7 : (t.kd == 7) = false := by rw [hkd]; rfl
          have hK2 : (t.kd == 2) = false := by rw [hkd]; rfl
          have HKD := hid_of hkd
          clear hkd
          obtain ⟨eb, hev⟩ := evict_any k _ σ HIB.out.sane dd HDL.out
          have HEV := hid_of hev
          clear hev
          unfold dv at HEV
          go_wp2_with (refine wpList_load_row rfl 28 _ rfl (wr.heap.size + 1) rfl 28 (List.map (Value.int IntKind.u8) dd).toArray (0, 0) _ HB11.out Tryd.underlying28 rfl hds ?_)
          refine (HEV.out _ _ mv HIB.out.st).mono ?_
          rintro e' wE ⟨rfl, σ', hA, hH⟩
          have HB12 := hid_of ((hA.kp.block _ (heap_lt HB11.out) (cells_not_map (r := 0) HB11.out HIB.out.st (by omega))).trans HB11.out)
          have HWI := hid_of (without_any wE u8 ps (HIB.out.after0 hA).2.2.2.1 dd HDL.out (by have := HIB.out.few; omega))
          unfold dv at HWI
          have HIW : Hid (∀ w2 lv', w2.ownsRow wE.heap.size 37 33 lv' (others ps dd).length (flat (others ps dd)) → Kept (fun _ => False) wE w2 → Inv W w2 W.heap.size k (1000 * j) j lv' mv σ' (others ps dd)) := fun w2 lv' ho hk => HIB.out.without hA (hH ps HIB.out.holds) ho hk
          clear hA hH HEV HB11
          go_wp2_with (refine wpList_load_row rfl 28 _ rfl (wr.heap.size + 1) rfl 28 (List.map (Value.int IntKind.u8) dd).toArray (0, 0) _ HB12.out Tryd.underlying28 rfl hds ?_)
          refine HWI.out.mono ?_
          rintro e' wG ⟨lv', rfl, hoG, hkG⟩
          have HIG := hid_of (HIW.out wG lv' hoG hkG)
          clear hoG hkG HIW HWI HB12
          go_upto_region 33 with fail
          by_cases h87 : (j : Int) % 8 = 7
          · go_wp2_with fail
            have hfew := HIG.out.few
            have hsn := HIG.out.sane
            have hg2 := hsn.gt
            have hp2 := hsn.pt
            have HFD := hid_of (found_any HIG.out.st (laid_kept HL.out HIG.out.kp (fun f => f)) (by omega) k hsn.wd h1 h2 lv' _ HIG.out.pis HIG.out.holds hg2.1 (by omega) hp2.1 (by omega) (by omega))
            have hsg := hsn.gp (others ps dd).length
            clear hsn hg2 hp2
            refine HFD.out.mono ?_
            rintro e' wF ⟨rfl, hSF, hkF⟩
            have HIF := hid_of (HIG.out.after (mv' := mv) (σ' := σ'.gp (others ps dd).length) ⟨hSF, kept_of_s hkF, .inl rfl, hsg, fun e he => .inl he⟩ HIG.out.holds)
            clear hSF hkF HFD hsg
            go_wp2
            go_roundw
            case rel => exact ⟨j + 1, _, _, _, by omega, by omega, by go_num, HIF.out.more (by omega) (by omega)⟩
            case measure => simp [intOf]; omega
          · go_wp2
            go_roundw
            case rel => exact ⟨j + 1, _, _, _, by omega, by omega, by go_num, HIG.out.more (by omega) (by omega)⟩
            case measure => simp [intOf]; omega
        by_cases hk6 : t.kd = 6
        · have hkd := hk6
          clear hk6
          have hK1 : (t.kd == 1) = false := by rw [hkd]; rfl
          have hK6 : (t.kd == 6) = true := by rw [hkd]; rfl
          have hK5 : (t.kd == 5) = false := by rw [hkd]; rfl
          have hK7 : (t.kd == 7) = false := by rw [hkd]; rfl
          have hK2 : (t.kd == 2) = false := by rw [hkd]; rfl
          have HKD := hid_of hkd
          clear hkd
          obtain ⟨q, hpl⟩ := plant_any k _ (by omega) σ HIB.out.sane dd HDL.out HDR.out t.ys HOK.out.cr (by omega)
          have HPL := hid_of hpl
          clear hpl
          unfold dv at HPL
          by_cases hq : q = 0
          · subst hq
            go_wp2_with (refine wpList_load_row rfl 28 _ rfl (wr.heap.size + 1) rfl 28 (List.map (Value.int IntKind.u8) dd).toArray (0, 0) _ HB11.out Tryd.underlying28 rfl hds ?_)
            have hcb := (HOKB.out _ HIB.out.kp).cb
            rw [HCV.out] at hcb
            have HPLB := hid_of (HPL.out _ _ mv _ HIB.out.st hcb)
            clear hcb HPL
            refine HPLB.out.mono ?_
            rintro e' wE ⟨rfl, mv', σ', hA, _, hH⟩
            have HB12 := hid_of ((hA.kp.block _ (heap_lt HB11.out) (cells_not_map (r := 0) HB11.out HIB.out.st (by omega))).trans HB11.out)
            have HWI := hid_of (without_any wE u8 ps (HIB.out.after0 hA).2.2.2.1 dd HDL.out (by have := HIB.out.few; omega))
            unfold dv at HWI
            have HIW : Hid (∀ w2 lv', w2.ownsRow wE.heap.size 37 33 lv' (others ps dd).length (flat (others ps dd)) → Kept (fun _ => False) wE w2 → Inv W w2 W.heap.size k (1000 * j + 2) j lv' mv' σ' (others ps dd)) := fun w2 lv' ho hk => HIB.out.without hA (hH ps HIB.out.holds) ho hk
            clear hA hH HPLB HB11
            go_wp2_with (refine wpList_load_row rfl 28 _ rfl (wr.heap.size + 1) rfl 28 (List.map (Value.int IntKind.u8) dd).toArray (0, 0) _ HB12.out Tryd.underlying28 rfl hds ?_)
            refine HWI.out.mono ?_
            rintro e' wG ⟨lv', rfl, hoG, hkG⟩
            have HIG := hid_of (HIW.out wG lv' hoG hkG)
            clear hoG hkG HIW HWI HB12
            go_upto_region 33 with fail
            by_cases h87 : (j : Int) % 8 = 7
            · go_wp2_with fail
              have hfew := HIG.out.few
              have hsn := HIG.out.sane
              have hg2 := hsn.gt
              have hp2 := hsn.pt
              have HFD := hid_of (found_any HIG.out.st (laid_kept HL.out HIG.out.kp (fun f => f)) (by omega) k hsn.wd h1 h2 lv' _ HIG.out.pis HIG.out.holds hg2.1 (by omega) hp2.1 (by omega) (by omega))
              have hsg := hsn.gp (others ps dd).length
              clear hsn hg2 hp2
              refine HFD.out.mono ?_
              rintro e' wF ⟨rfl, hSF, hkF⟩
              have HIF := hid_of (HIG.out.after (mv' := mv') (σ' := σ'.gp (others ps dd).length) ⟨hSF, kept_of_s hkF, .inl rfl, hsg, fun e he => .inl he⟩ HIG.out.holds)
              clear hSF hkF HFD hsg
              go_wp2
              go_roundw
              case rel => exact ⟨j + 1, _, _, _, by omega, by omega, by go_num, HIF.out.more (by omega) (by omega)⟩
              case measure => simp [intOf]; omega
            · go_wp2
              go_roundw
              case rel => exact ⟨j + 1, _, _, _, by omega, by omega, by go_num, HIG.out.more (by omega) (by omega)⟩
              case measure => simp [intOf]; omega
          · go_wp2_with (refine wpList_load_row rfl 28 _ rfl (wr.heap.size + 1) rfl 28 (List.map (Value.int IntKind.u8) dd).toArray (0, 0) _ HB11.out Tryd.underlying28 rfl hds ?_)
            have hcb := (HOKB.out _ HIB.out.kp).cb
            rw [HCV.out] at hcb
            have HPLB := hid_of (HPL.out _ _ mv _ HIB.out.st hcb)
            clear hcb HPL
            refine HPLB.out.mono ?_
            rintro e' wE ⟨rfl, mv', σ', hA, hne, _⟩
            have HIG : Hid (Inv W wE W.heap.size k (1000 * j + 2) j u8 mv' σ' ps) := HIB.out.after hA (by rw [hne hq]; exact HIB.out.holds)
            have hqb : (q == 0) = false := by simpa using hq
            clear hA hne HPLB HB11
            go_upto_region 33 with fail
            by_cases h87 : (j : Int) % 8 = 7
            · go_wp2_with fail
              have hfew := HIG.out.few
              have hsn := HIG.out.sane
              have hg2 := hsn.gt
              have hp2 := hsn.pt
              have HFD := hid_of (found_any HIG.out.st (laid_kept HL.out HIG.out.kp (fun f => f)) (by omega) k hsn.wd h1 h2 u8 _ HIG.out.pis HIG.out.holds hg2.1 (by omega) hp2.1 (by omega) (by omega))
              have hsg := hsn.gp ps.length
              clear hsn hg2 hp2
              refine HFD.out.mono ?_
              rintro e' wF ⟨rfl, hSF, hkF⟩
              have HIF := hid_of (HIG.out.after (mv' := mv') (σ' := σ'.gp ps.length) ⟨hSF, kept_of_s hkF, .inl rfl, hsg, fun e he => .inl he⟩ HIG.out.holds)
              clear hSF hkF HFD hsg
              go_wp2
              go_roundw
              case rel => exact ⟨j + 1, _, _, _, by omega, by omega, by go_num, HIF.out.more (by omega) (by omega)⟩
              case measure => simp [intOf]; omega
            · go_wp2
              go_roundw
              case rel => exact ⟨j + 1, _, _, _, by omega, by omega, by go_num, HIG.out.more (by omega) (by omega)⟩
              case measure => simp [intOf]; omega
        by_cases hk1 : t.kd = 1
        · have hkd := hk1
          clear hk1
          have hK1 : (t.kd == 1) = true := by rw [hkd]; rfl
          have hK6 : (t.kd == 6) = false := by rw [hkd]; rfl
          have hK5 : (t.kd == 5) = false := by rw [hkd]; rfl
          have hK7 : (t.kd == 7) = false := by rw [hkd]; rfl
          have hK2 : (t.kd == 2) = false := by rw [hkd]; rfl
          have HKD := hid_of hkd
          clear hkd
          obtain ⟨q, dr, hdrl, hqd, hput⟩ := put_any k _ h1 h2 (by omega) σ HIB.out.sane t.xs HOK.out.br (by omega)
          have HQD := hid_of hqd
          have HPUT := hid_of hput
          have HDRL := hid_of hdrl
          have hdsr := size28_of dr hdrl
          have honer := oneCells .u8 dr
          have HODR : Hid (32 = (List.map (Value.int IntKind.u8) dr).toArray.size) := by show 32 = _; simp [hdrl]
          clear hqd hput hdrl
          unfold dv at HPUT
          by_cases hq : q = 0
          · subst hq
            have HFK := hid_of (HQD.out rfl)
            go_wp2_with fail
            have hbb := (HOKB.out _ HIB.out.kp).bb
            rw [HBV.out] at hbb
            have HPB := hid_of (HPUT.out _ _ mv _ HIB.out.st (laid_kept HL.out HIB.out.kp (fun f => f)) (by omega) hbb)
            clear hbb HPUT
            refine HPB.out.mono ?_
            rintro e' wE ⟨rfl, mv', σ', hA, hH, hQ⟩
            have HIA : Hid (Inv W (wE.alloc (Obj.cells (List.map (Value.int IntKind.u8) dr).toArray 28)) W.heap.size k (1000 * j + 2) j u8 mv' σ' ps) := (HIB.out.after hA (hH ps HIB.out.holds)).quiet ((Kept.refl _ _).alloc _)
            have HBA : Hid ((wE.alloc (Obj.cells (List.map (Value.int IntKind.u8) dr).toArray 28)).heap[wE.heap.size]? = some (.cells (List.map (Value.int IntKind.u8) dr).toArray 28 (0, 0))) := alloc_new _ _ rfl
            have hE10 := (hA.kp.block _ (heap_lt HB10.out) (cells_not_map (r := 0) HB10.out HIB.out.st (by omega))).trans HB10.out
            have hA10 := (((Kept.refl (fun _ => False) wE).alloc (Obj.cells (List.map (Value.int IntKind.u8) dr).toArray 28)).block _ (heap_lt hE10) (fun f => f)).trans hE10
            have hc1A := (Stp.at HOK.out.dl hA10).2.1
            rw [HBV.out] at hc1A
            have HQ := hid_of hQ
            have hEs : W.heap.size ≤ wE.heap.size := (HIB.out.after hA (hH ps HIB.out.holds)).kp.size
            clear hA hH hQ HPB hE10 hA10 hc0 hc1 hc2 hc36
            go_wp2_with (refine wpList_store_row rfl 28 _ _ rfl wE.heap.size (List.map (Value.int IntKind.u8) dr).toArray rfl rfl 28 _ (alloc_new _ _ rfl) hdsr HODR.out honer ?_; rw [setRow_new _ _ _ _ rfl])
            have hwEA : wE.heap.size < (wE.alloc (Obj.cells (List.map (Value.int IntKind.u8) dr).toArray 28)).heap.size := by simp
            generalize (wE.alloc (Obj.cells (List.map (Value.int IntKind.u8) dr).toArray 28)) = wA at *
            have HC1 := hid_of hc1A
            clear hc1A
            clear HQD
            have HWD := hid_of (fun w' (hS : Stor w' W.heap.size mv' σ') => width_any hS)
            rw [HIA.out.sane.wd] at HWD
            have hbb := (HOKB.out _ HIA.out.kp).bb
            rw [HBV.out] at hbb
            have HBB := hid_of hbb
            clear hbb
            have HOF : Hid (∀ W', BIn W' (.slice bo t.xs.length bc) t.xs → Calls Tryd.prog 8 #[.int .i64 (k : Int), .slice bo t.xs.length bc] W' fun e w' => e = .returned (dv (frontOf k t.xs)) ∧ Kept (fun _ => False) W' w') := fun W' hW => rof4_any k h1 h2 _ t.xs W' hW HOK.out.br (by omega)
            rw [← HFK.out] at HOF
            unfold dv at HOF
            have HQE := hid_of (HQ.out (by simp))
            rw [← HFK.out] at HQE
            clear HQ
            have HDL' := HDL
            clear HDL
            have HDL := HDRL
            have HEQ : Hid (∀ W' : World, (Op.equalIn 10000 28 (dv dr) (dv dr)).run Tryd.prog W' = .ok true W') := fun W' => by
              have := run_eq_arr W' 9998 28 32 dr dr Tryd.underlying28 HDL.out HDL.out
              rw [decide_eq_true rfl] at this
              exact this
            unfold dv at HEQ
            refine wp_region_held_drew (S := fun w' => w'.heap[wE.heap.size]? = some (.cells (List.map (Value.int IntKind.u8) dr).toArray 28 (0, 0)) ∧ w'.cell? ⟨wr.heap.size, 1, none⟩ = some (.slice bo t.xs.length bc)) (by kernel_rfl) ⟨HBA.out, HC1.out⟩ (fun hHeld => ?_)
            refine wpAnyH_take (i := 0) (v := ?_) rfl (by kernel_rfl) (by kernel_rfl) (by kernel_rfl) (fun _ _ _ h => h) (Or.inl ⟨by rfl, ?_⟩) (by assumption) ?_
            rotate_left 1
            · intro w hSw
              go_simp
              try with_reducible rfl
            try simp only [Act.put, List.getElem_toArray, List.getElem_cons_zero, List.getElem_cons_succ, List.setIfInBounds_toArray, List.set_cons_zero, List.set_cons_succ]
            refine wpAnyH_take (i := 1) (v := ?_) rfl (by kernel_rfl) (by kernel_rfl) (by kernel_rfl) (fun _ _ _ h => h) (Or.inl ⟨by rfl, ?_⟩) (by assumption) ?_
            rotate_left 1
            · intro w hSw
              go_simp
              try with_reducible rfl
            try simp only [Act.put, List.getElem_toArray, List.getElem_cons_zero, List.getElem_cons_succ, List.setIfInBounds_toArray, List.set_cons_zero, List.set_cons_succ]
            refine wpAnyH_take (i := 2) (v := ?_) rfl (by kernel_rfl) (by kernel_rfl) (by kernel_rfl) (fun _ _ _ h => h) (Or.inl ⟨by rfl, ?_⟩) (by assumption) ?_
            rotate_left 1
            · intro w hSw
              go_simp
              try with_reducible rfl
            try simp only [Act.put, List.getElem_toArray, List.getElem_cons_zero, List.getElem_cons_succ, List.setIfInBounds_toArray, List.set_cons_zero, List.set_cons_succ]
            refine wpAnyH_take (i := 4) (v := ?_) rfl (by kernel_rfl) (by kernel_rfl) (by kernel_rfl) (fun _ _ _ h => h) (Or.inl ⟨by rfl, ?_⟩) (by assumption) ?_
            rotate_left 1
            · intro w hSw
              go_simp
              try with_reducible rfl
            try simp only [Act.put, List.getElem_toArray, List.getElem_cons_zero, List.getElem_cons_succ, List.setIfInBounds_toArray, List.set_cons_zero, List.set_cons_succ]
            refine wpAnyH_take (i := 6) (v := ?_) rfl (by kernel_rfl) (by kernel_rfl) (by kernel_rfl) (fun _ _ _ h => h) (Or.inl ⟨by rfl, ?_⟩) (by assumption) ?_
            rotate_left 1
            · intro w hSw
              go_simp
              try with_reducible rfl
            try simp only [Act.put, List.getElem_toArray, List.getElem_cons_zero, List.getElem_cons_succ, List.setIfInBounds_toArray, List.set_cons_zero, List.set_cons_succ]
            refine wpAnyH_take (i := 3) (v := .agg (List.map (Value.int IntKind.u8) dr).toArray) rfl (by kernel_rfl) (by kernel_rfl) (by kernel_rfl) (fun _ _ _ h => h) (yields_row (by rfl) 28 _ rfl wE.heap.size rfl 28 (List.map (Value.int IntKind.u8) dr).toArray (0, 0) _ (fun w hSw => hSw.1) Tryd.underlying28 rfl hdsr) (by assumption) ?_
            try simp only [Act.put, List.getElem_toArray, List.getElem_cons_zero, List.getElem_cons_succ, List.setIfInBounds_toArray, List.set_cons_zero, List.set_cons_succ]
            refine wpAnyH_take (i := 7) (v := ?_) rfl (by kernel_rfl) (by kernel_rfl) (by kernel_rfl) (fun _ _ _ h => h) (Or.inl ⟨by rfl, ?_⟩) (by assumption) ?_
            rotate_left 1
            · intro w hSw
              obtain ⟨_, hcw⟩ := hSw
              go_simp
              try with_reducible rfl
            try simp only [Act.put, List.getElem_toArray, List.getElem_cons_zero, List.getElem_cons_succ, List.setIfInBounds_toArray, List.set_cons_zero, List.set_cons_succ]
            refine wpAnyH_ready (rs := [5]) (by kernel_rfl) (by simp) ?_
            refine AllReadyH.cons rfl (fun K hK => ?_) AllReadyH.nil
            go_simp
            refine (HWD.out wA.drew (HIA.out.st.kept (Kept.refl (fun _ => False) wA).drew (fun _ _ f => f))).mono ?_
            rintro e w' ⟨rfl, hw'⟩
            have hw'' := hw'.symm
            clear hw'
            subst hw''
            refine hK.out _ _ ⟨HBA.out, HC1.out⟩ (fun hHeld => ?_)
            clear hK K
            try simp only [Act.put, List.getElem_toArray, List.getElem_cons_zero, List.getElem_cons_succ, List.setIfInBounds_toArray, List.set_cons_zero, List.set_cons_succ]
            refine wpAnyH_ready (rs := [8]) (by kernel_rfl) (by simp) ?_
            refine AllReadyH.cons rfl (fun K hK => ?_) AllReadyH.nil
            go_simp
            refine (HOF.out wA.drew (HBB.out.kept2 (Kept.refl (fun _ => False) wA).drew (fun _ _ _ f => f))).mono ?_
            rintro e wO ⟨rfl, hkO⟩
            have hkO' : Kept (fun _ => False) wA wO := (Kept.refl _ wA).drew.trans hkO
            have HIO := hid_of (HIA.out.quiet hkO')
            have HB13 := hid_of ((hkO'.block _ (heap_lt HBA.out) (fun f => f)).trans HBA.out)
            have hcO : wO.cell? ⟨wr.heap.size, 1, none⟩ = some (.slice bo t.xs.length bc) := hkO'.cell HC1.out (fun f => f)
            have HCO := hid_of hcO
            clear hcO hkO hkO'
            refine hK.out _ _ ⟨HB13.out, HCO.out⟩ (fun hHeld => ?_)
            clear hK K
            try simp only [Act.put, List.getElem_toArray, List.getElem_cons_zero, List.getElem_cons_succ, List.setIfInBounds_toArray, List.set_cons_zero, List.set_cons_succ]
            refine wpAnyH_take (i := 9) (v := ?_) rfl (by kernel_rfl) (by kernel_rfl) (by kernel_rfl) (fun _ _ _ h => h) (Or.inl ⟨by rfl, ?_⟩) (by assumption) ?_
            rotate_left 1
            · intro w hSw
              have hq9 := HEQ.out w
              go_simp
              try with_reducible rfl
            try simp only [Act.put, List.getElem_toArray, List.getElem_cons_zero, List.getElem_cons_succ, List.setIfInBounds_toArray, List.set_cons_zero, List.set_cons_succ]
            refine wpAnyH_take (i := 10) (v := ?_) rfl (by kernel_rfl) (by kernel_rfl) (by kernel_rfl) (fun _ _ _ h => h) (Or.inl ⟨by rfl, ?_⟩) (by assumption) ?_
            rotate_left 1
            · intro w hSw
              go_simp
              try with_reducible rfl
            try simp only [Act.put, List.getElem_toArray, List.getElem_cons_zero, List.getElem_cons_succ, List.setIfInBounds_toArray, List.set_cons_zero, List.set_cons_succ]
            refine wpAnyH_done (by kernel_rfl) ?_ _
            have hfw := HIO.out.few
            have hbO := (HOKB.out _ HIO.out.kp).bb
            rw [HBV.out] at hbO
            obtain ⟨v5, w5, hr5, ho5, ⟨g5, c5, hv5⟩, hk5⟩ := app_put wO u8 W.heap.size ps (Pt.mk dr (.slice bo t.xs.length bc) t.xs) HDRL.out rfl HIO.out.own HIO.out.kp.size (by omega)
            obtain ⟨m5, hm5⟩ : ∃ m : Nat, m = (ps ++ [(Pt.mk dr (.slice bo t.xs.length bc) t.xs)]).length := ⟨_, rfl⟩
            rw [← hm5] at hv5
            clear hm5
            subst hv5
            have hw5 := app_where wO u8 W.heap.size ps (Pt.mk dr (.slice bo t.xs.length bc) t.xs) HDRL.out rfl HIO.out.own (by omega) _ _ hr5
            have HI5 := hid_of (HIO.out.push hk5 ho5 hw5 ⟨HDRL.out, hbO, HOK.out.br, by show t.xs.length ≤ _; omega⟩ (fun h0 g hg => by have := (HOKB.out W (Kept.refl _ W)).bb; rw [HBV.out] at this; exact this.blt h0 g hg) ⟨HFK.out.symm, HQE.out⟩)
            clear hw5
            clear ho5 hk5 hbO
            have hcO := HCO.out
            go_upto_region 33 with (first | (refine wpList_load_row rfl 28 _ rfl wE.heap.size rfl 28 (List.map (Value.int IntKind.u8) dr).toArray (0, 0) _ HB13.out Tryd.underlying28 rfl hdsr ?_) | (refine wpList_bput rfl _ _ rfl dr bo t.xs.length bc rfl rfl HDRL.out t.xs ?_) | (refine wpList_build37 rfl _ rfl (Pt.cells (Pt.mk dr (.slice bo t.xs.length bc) t.xs)) rfl (Pt.clen HDRL.out) ?_) | (refine wp_app rfl (.tmp 79) (.tmp 84) 25 25 ?_ _ _ rfl rfl (.slice (some ⟨g5, 0, none⟩) m5 c5) w5 ?_ ?_; rfl; exact hr5))
            clear hcO
            by_cases h87 : (j : Int) % 8 = 7
            · go_wp2_with fail
              have hfew := HI5.out.few
              have hsn := HI5.out.sane
              have hg2 := hsn.gt
              have hp2 := hsn.pt
              have HFD := hid_of (found_any HI5.out.st (laid_kept HL.out HI5.out.kp (fun f => f)) (by omega) k hsn.wd h1 h2 (.slice (some ⟨g5, 0, none⟩) m5 c5) _ HI5.out.pis HI5.out.holds hg2.1 (by omega) hp2.1 (by omega) (by omega))
              have hsg := hsn.gp (ps ++ [(Pt.mk dr (.slice bo t.xs.length bc) t.xs)]).length
              clear hsn hg2 hp2
              refine HFD.out.mono ?_
              rintro e' wF ⟨rfl, hSF, hkF⟩
              have HIF := hid_of (HI5.out.after (mv' := mv') (σ' := σ'.gp (ps ++ [(Pt.mk dr (.slice bo t.xs.length bc) t.xs)]).length) ⟨hSF, kept_of_s hkF, .inl rfl, hsg, fun e he => .inl he⟩ HI5.out.holds)
              clear hSF hkF HFD hsg
              go_wp2
              go_roundw
              case rel => exact ⟨j + 1, _, _, _, by omega, by omega, by go_num, HIF.out.more (by omega) (by omega)⟩
              case measure => simp [intOf]; omega
            · go_wp2
              go_roundw
              case rel => exact ⟨j + 1, _, _, _, by omega, by omega, by go_num, HI5.out.more (by omega) (by omega)⟩
              case measure => simp [intOf]; omega
          · go_wp2_with fail
            have hbb := (HOKB.out _ HIB.out.kp).bb
            rw [HBV.out] at hbb
            have HPB := hid_of (HPUT.out _ _ mv _ HIB.out.st (laid_kept HL.out HIB.out.kp (fun f => f)) (by omega) hbb)
            clear hbb HPUT
            refine HPB.out.mono ?_
            rintro e' wE ⟨rfl, mv', σ', hA, hH, hQ⟩
            have HIA : Hid (Inv W (wE.alloc (Obj.cells (List.map (Value.int IntKind.u8) dr).toArray 28)) W.heap.size k (1000 * j + 2) j u8 mv' σ' ps) := (HIB.out.after hA (hH ps HIB.out.holds)).quiet ((Kept.refl _ _).alloc _)
            have HBA : Hid ((wE.alloc (Obj.cells (List.map (Value.int IntKind.u8) dr).toArray 28)).heap[wE.heap.size]? = some (.cells (List.map (Value.int IntKind.u8) dr).toArray 28 (0, 0))) := alloc_new _ _ rfl
            have hE10 := (hA.kp.block _ (heap_lt HB10.out) (cells_not_map (r := 0) HB10.out HIB.out.st (by omega))).trans HB10.out
            have hA10 := (((Kept.refl (fun _ => False) wE).alloc (Obj.cells (List.map (Value.int IntKind.u8) dr).toArray 28)).block _ (heap_lt hE10) (fun f => f)).trans hE10
            have hc1A := (Stp.at HOK.out.dl hA10).2.1
            rw [HBV.out] at hc1A
            have HQ := hid_of hQ
            have hEs : W.heap.size ≤ wE.heap.size := (HIB.out.after hA (hH ps HIB.out.holds)).kp.size
            clear hA hH hQ HPB hE10 hA10 hc0 hc1 hc2 hc36
            go_wp2_with (refine wpList_store_row rfl 28 _ _ rfl wE.heap.size (List.map (Value.int IntKind.u8) dr).toArray rfl rfl 28 _ (alloc_new _ _ rfl) hdsr HODR.out honer ?_; rw [setRow_new _ _ _ _ rfl])
            have hwEA : wE.heap.size < (wE.alloc (Obj.cells (List.map (Value.int IntKind.u8) dr).toArray 28)).heap.size := by simp
            generalize (wE.alloc (Obj.cells (List.map (Value.int IntKind.u8) dr).toArray 28)) = wA at *
            have HC1 := hid_of hc1A
            clear hc1A
            have hqb : (q == 0) = false := by simpa using hq
            clear HQD HQ
            refine wp_region_held_drew (S := fun w' => w'.heap[wE.heap.size]? = some (.cells (List.map (Value.int IntKind.u8) dr).toArray 28 (0, 0)) ∧ w'.cell? ⟨wr.heap.size, 1, none⟩ = some (.slice bo t.xs.length bc)) (by kernel_rfl) ⟨HBA.out, HC1.out⟩ (fun hHeld => ?_)
            refine wpAnyH_take (i := 0) (v := ?_) rfl (by kernel_rfl) (by kernel_rfl) (by kernel_rfl) (fun _ _ _ h => h) (Or.inl ⟨by rfl, ?_⟩) (by assumption) ?_
            rotate_left 1
            · intro w hSw
              go_simp
              try with_reducible rfl
            try simp only [Act.put, List.getElem_toArray, List.getElem_cons_zero, List.getElem_cons_succ, List.setIfInBounds_toArray, List.set_cons_zero, List.set_cons_succ]
            refine wpAnyH_take (i := 1) (v := ?_) rfl (by kernel_rfl) (by kernel_rfl) (by kernel_rfl) (fun _ _ _ h => h) (Or.inl ⟨by rfl, ?_⟩) (by assumption) ?_
            rotate_left 1
            · intro w hSw
              go_simp
              try with_reducible rfl
            try simp only [Act.put, List.getElem_toArray, List.getElem_cons_zero, List.getElem_cons_succ, List.setIfInBounds_toArray, List.set_cons_zero, List.set_cons_succ]
            refine wpAnyH_take (i := 2) (v := ?_) rfl (by kernel_rfl) (by kernel_rfl) (by kernel_rfl) (fun _ _ _ h => h) (Or.inl ⟨by rfl, ?_⟩) (by assumption) ?_
            rotate_left 1
            · intro w hSw
              go_simp
              try with_reducible rfl
            try simp only [Act.put, List.getElem_toArray, List.getElem_cons_zero, List.getElem_cons_succ, List.setIfInBounds_toArray, List.set_cons_zero, List.set_cons_succ]
            refine wpAnyH_take (i := 3) (v := undef) rfl (by kernel_rfl) (by kernel_rfl) (by kernel_rfl) (fun _ _ _ h => h) (Or.inr ⟨by rfl, rfl⟩) (by assumption) ?_
            try simp only [Act.put, List.getElem_toArray, List.getElem_cons_zero, List.getElem_cons_succ, List.setIfInBounds_toArray, List.set_cons_zero, List.set_cons_succ]
            refine wpAnyH_take (i := 4) (v := undef) rfl (by kernel_rfl) (by kernel_rfl) (by kernel_rfl) (fun _ _ _ h => h) (Or.inr ⟨by rfl, rfl⟩) (by assumption) ?_
            try simp only [Act.put, List.getElem_toArray, List.getElem_cons_zero, List.getElem_cons_succ, List.setIfInBounds_toArray, List.set_cons_zero, List.set_cons_succ]
            refine wpAnyH_take (i := 6) (v := undef) rfl (by kernel_rfl) (by kernel_rfl) (by kernel_rfl) (fun _ _ _ h => h) (Or.inr ⟨by rfl, rfl⟩) (by assumption) ?_
            try simp only [Act.put, List.getElem_toArray, List.getElem_cons_zero, List.getElem_cons_succ, List.setIfInBounds_toArray, List.set_cons_zero, List.set_cons_succ]
            refine wpAnyH_take (i := 7) (v := undef) rfl (by kernel_rfl) (by kernel_rfl) (by kernel_rfl) (fun _ _ _ h => h) (Or.inr ⟨by rfl, rfl⟩) (by assumption) ?_
            try simp only [Act.put, List.getElem_toArray, List.getElem_cons_zero, List.getElem_cons_succ, List.setIfInBounds_toArray, List.set_cons_zero, List.set_cons_succ]
            refine wpAnyH_ready (rs := [5]) (by kernel_rfl) (by simp) ?_
            refine AllReadyH.cons rfl (fun K hK => ?_) AllReadyH.nil
            go_simp
            refine hK.out _ _ ⟨HBA.out, HC1.out⟩ (fun hHeld => ?_)
            clear hK K
            try simp only [Act.put, List.getElem_toArray, List.getElem_cons_zero, List.getElem_cons_succ, List.setIfInBounds_toArray, List.set_cons_zero, List.set_cons_succ]
            refine wpAnyH_ready (rs := [8]) (by kernel_rfl) (by simp) ?_
            refine AllReadyH.cons rfl (fun K hK => ?_) AllReadyH.nil
            go_simp
            refine hK.out _ _ ⟨HBA.out, HC1.out⟩ (fun hHeld => ?_)
            clear hK K
            try simp only [Act.put, List.getElem_toArray, List.getElem_cons_zero, List.getElem_cons_succ, List.setIfInBounds_toArray, List.set_cons_zero, List.set_cons_succ]
            refine wpAnyH_take (i := 9) (v := undef) rfl (by kernel_rfl) (by kernel_rfl) (by kernel_rfl) (fun _ _ _ h => h) (Or.inr ⟨by rfl, rfl⟩) (by assumption) ?_
            try simp only [Act.put, List.getElem_toArray, List.getElem_cons_zero, List.getElem_cons_succ, List.setIfInBounds_toArray, List.set_cons_zero, List.set_cons_succ]
            refine wpAnyH_take (i := 10) (v := ?_) rfl (by kernel_rfl) (by kernel_rfl) (by kernel_rfl) (fun _ _ _ h => h) (Or.inl ⟨by rfl, ?_⟩) (by assumption) ?_
            rotate_left 1
            · intro w hSw
              go_simp
              try with_reducible rfl
            try simp only [Act.put, List.getElem_toArray, List.getElem_cons_zero, List.getElem_cons_succ, List.setIfInBounds_toArray, List.set_cons_zero, List.set_cons_succ]
            refine wpAnyH_done (by kernel_rfl) ?_ _
            have HIO : Hid (Inv W wA.drew W.heap.size k (1000 * j + 2) j u8 mv' σ' ps) := HIA.out.quiet (Kept.refl (fun _ => False) wA).drew
            go_upto_region 33 with fail
            by_cases h87 : (j : Int) % 8 = 7
            · go_wp2_with fail
              have hfew := HIO.out.few
              have hsn := HIO.out.sane
              have hg2 := hsn.gt
              have hp2 := hsn.pt
              have HFD := hid_of (found_any HIO.out.st (laid_kept HL.out HIO.out.kp (fun f => f)) (by omega) k hsn.wd h1 h2 u8 _ HIO.out.pis HIO.out.holds hg2.1 (by omega) hp2.1 (by omega) (by omega))
              have hsg := hsn.gp ps.length
              clear hsn hg2 hp2
              refine HFD.out.mono ?_
              rintro e' wF ⟨rfl, hSF, hkF⟩
              have HIF := hid_of (HIO.out.after (mv' := mv') (σ' := σ'.gp ps.length) ⟨hSF, kept_of_s hkF, .inl rfl, hsg, fun e he => .inl he⟩ HIO.out.holds)
              clear hSF hkF HFD hsg
              go_wp2
              go_roundw
              case rel => exact ⟨j + 1, _, _, _, by omega, by omega, by go_num, HIF.out.more (by omega) (by omega)⟩
              case measure => simp [intOf]; omega
            · go_wp2
              go_roundw
              case rel => exact ⟨j + 1, _, _, _, by omega, by omega, by go_num, HIO.out.more (by omega) (by omega)⟩
              case measure => simp [intOf]; omega
        by_cases hk2 : t.kd = 2
        · have hkd := hk2
          clear hk2
          have hK1 : (t.kd == 1) = false := by rw [hkd]; rfl
          have hK6 : (t.kd == 6) = false := by rw [hkd]; rfl
          have hK5 : (t.kd == 5) = false := by rw [hkd]; rfl
          have hK7 : (t.kd == 7) = false := by rw [hkd]; rfl
          have hK2 : (t.kd == 2) = true := by rw [hkd]; rfl
          have HKD := hid_of hkd
          clear hkd
          obtain ⟨q, xs, hqd, hget⟩ := get_any k _ h1 h2 (by omega) σ HIB.out.sane dd HDL.out
          have HQD := hid_of hqd
          have HGET := hid_of hget
          clear hqd hget
          unfold dv at HGET
          by_cases hq : q = 0
          · subst hq
            have HFK := hid_of (HQD.out rfl)
            go_wp2_with (refine wpList_load_row rfl 28 _ rfl (wr.heap.size + 1) rfl 28 (List.map (Value.int IntKind.u8) dd).toArray (0, 0) _ HB11.out Tryd.underlying28 rfl hds ?_)
            have HGB := hid_of (HGET.out _ _ mv HIB.out.st (laid_kept HL.out HIB.out.kp (fun f => f)) (by omega))
            clear HGET
            refine HGB.out.2.2.mono ?_
            rintro e' wE ⟨gv, rfl, hgv, hSE, hkE⟩
            obtain ⟨gn, gc, hgg, _, _⟩ := id hgv
            subst hgg
            have HIE := hid_of (HIB.out.after (mv' := mv) (σ' := σ.get1) ⟨hSE, kept_of_s hkE, .inl rfl, HIB.out.sane.get1, fun e he => .inl he⟩ HIB.out.holds)
            have HGV := hid_of hgv
            have HB12 := hid_of ((hkE.block _ (heap_lt HB11.out) (by omega)).trans HB11.out)
            clear hgv hSE hkE HB11
            have HXR := hid_of HGB.out.2.1
            have HXL := hid_of HGB.out.1
            clear HGB HQD
            have HWD := hid_of (fun w' (hS : Stor w' W.heap.size mv σ.get1) => width_any hS)
            rw [show σ.get1.wd = (k : Int) from HIB.out.sane.wd] at HWD
            have HOF : Hid (∀ W', BIn W' (.slice gn xs.length gc) xs → Calls Tryd.prog 8 #[.int .i64 (k : Int), .slice gn xs.length gc] W' fun e w' => e = .returned (dv (frontOf k xs)) ∧ Kept (fun _ => False) W' w') := fun W' hW => rof4_any k h1 h2 _ xs W' hW HXR.out (by have := HXL.out; omega)
            rw [HFK.out] at HOF
            unfold dv at HOF
            have HEQ : Hid (∀ W' : World, (Op.equalIn 10000 28 (dv dd) (dv dd)).run Tryd.prog W' = .ok true W') := fun W' => by
              have := run_eq_arr W' 9998 28 32 dd dd Tryd.underlying28 HDL.out HDL.out
              rw [decide_eq_true rfl] at this
              exact this
            unfold dv at HEQ
            go_wp2
            refine wp_region_held_drew (S := fun w' => w'.heap[wr.heap.size + 1]? = some (.cells (List.map (Value.int IntKind.u8) dd).toArray 28 (0, 0))) (by kernel_rfl) HB12.out (fun hHeld => ?_)
            refine wpAnyH_take (i := 0) (v := ?_) rfl (by kernel_rfl) (by kernel_rfl) (by kernel_rfl) (fun _ _ _ h => h) (Or.inl ⟨by rfl, ?_⟩) (by assumption) ?_
            rotate_left 1
            · intro w hSw
              go_simp
              try with_reducible rfl
            try simp only [Act.put, List.getElem_toArray, List.getElem_cons_zero, List.getElem_cons_succ, List.setIfInBounds_toArray, List.set_cons_zero, List.set_cons_succ]
            refine wpAnyH_take (i := 1) (v := ?_) rfl (by kernel_rfl) (by kernel_rfl) (by kernel_rfl) (fun _ _ _ h => h) (Or.inl ⟨by rfl, ?_⟩) (by assumption) ?_
            rotate_left 1
            · intro w hSw
              go_simp
              try with_reducible rfl
            try simp only [Act.put, List.getElem_toArray, List.getElem_cons_zero, List.getElem_cons_succ, List.setIfInBounds_toArray, List.set_cons_zero, List.set_cons_succ]
            refine wpAnyH_take (i := 2) (v := ?_) rfl (by kernel_rfl) (by kernel_rfl) (by kernel_rfl) (fun _ _ _ h => h) (Or.inl ⟨by rfl, ?_⟩) (by assumption) ?_
            rotate_left 1
            · intro w hSw
              go_simp
              try with_reducible rfl
            try simp only [Act.put, List.getElem_toArray, List.getElem_cons_zero, List.getElem_cons_succ, List.setIfInBounds_toArray, List.set_cons_zero, List.set_cons_succ]
            refine wpAnyH_take (i := 3) (v := ?_) rfl (by kernel_rfl) (by kernel_rfl) (by kernel_rfl) (fun _ _ _ h => h) (Or.inl ⟨by rfl, ?_⟩) (by assumption) ?_
            rotate_left 1
            · intro w hSw
              go_simp
              try with_reducible rfl
            try simp only [Act.put, List.getElem_toArray, List.getElem_cons_zero, List.getElem_cons_succ, List.setIfInBounds_toArray, List.set_cons_zero, List.set_cons_succ]
            refine wpAnyH_take (i := 5) (v := ?_) rfl (by kernel_rfl) (by kernel_rfl) (by kernel_rfl) (fun _ _ _ h => h) (Or.inl ⟨by rfl, ?_⟩) (by assumption) ?_
            rotate_left 1
            · intro w hSw
              go_simp
              try with_reducible rfl
            try simp only [Act.put, List.getElem_toArray, List.getElem_cons_zero, List.getElem_cons_succ, List.setIfInBounds_toArray, List.set_cons_zero, List.set_cons_succ]
            refine wpAnyH_take (i := 7) (v := .agg (List.map (Value.int IntKind.u8) dd).toArray) rfl (by kernel_rfl) (by kernel_rfl) (by kernel_rfl) (fun _ _ _ h => h) (yields_row (by rfl) 28 _ rfl (wr.heap.size + 1) rfl 28 (List.map (Value.int IntKind.u8) dd).toArray (0, 0) _ (fun w hSw => hSw) Tryd.underlying28 rfl hds) (by assumption) ?_
            try simp only [Act.put, List.getElem_toArray, List.getElem_cons_zero, List.getElem_cons_succ, List.setIfInBounds_toArray, List.set_cons_zero, List.set_cons_succ]
            refine wpAnyH_ready (rs := [4]) (by kernel_rfl) (by simp) ?_
            refine AllReadyH.cons rfl (fun K hK => ?_) AllReadyH.nil
            go_simp
            refine (HWD.out wE.drew (HIE.out.st.kept (Kept.refl (fun _ => False) wE).drew (fun _ _ f => f))).mono ?_
            rintro e w' ⟨rfl, hw'⟩
            have hw'' := hw'.symm
            clear hw'
            subst hw''
            refine hK.out _ _ HB12.out (fun hHeld => ?_)
            clear hK K
            try simp only [Act.put, List.getElem_toArray, List.getElem_cons_zero, List.getElem_cons_succ, List.setIfInBounds_toArray, List.set_cons_zero, List.set_cons_succ]
            refine wpAnyH_ready (rs := [6]) (by kernel_rfl) (by simp) ?_
            refine AllReadyH.cons rfl (fun K hK => ?_) AllReadyH.nil
            go_simp
            refine (HOF.out wE.drew (HGV.out.kept2 (Kept.refl (fun _ => False) wE).drew (fun _ _ _ f => f))).mono ?_
            rintro e wO ⟨rfl, hkO⟩
            have hkO' : Kept (fun _ => False) wE wO := (Kept.refl _ wE).drew.trans hkO
            have HIO := hid_of (HIE.out.quiet hkO')
            have HB13 := hid_of ((hkO'.block _ (heap_lt HB12.out) (fun f => f)).trans HB12.out)
            clear hkO hkO'
            refine hK.out _ _ HB13.out (fun hHeld => ?_)
            clear hK K
            try simp only [Act.put, List.getElem_toArray, List.getElem_cons_zero, List.getElem_cons_succ, List.setIfInBounds_toArray, List.set_cons_zero, List.set_cons_succ]
            refine wpAnyH_take (i := 8) (v := ?_) rfl (by kernel_rfl) (by kernel_rfl) (by kernel_rfl) (fun _ _ _ h => h) (Or.inl ⟨by rfl, ?_⟩) (by assumption) ?_
            rotate_left 1
            · intro w hSw
              have hq9 := HEQ.out w
              go_simp
              try with_reducible rfl
            try simp only [Act.put, List.getElem_toArray, List.getElem_cons_zero, List.getElem_cons_succ, List.setIfInBounds_toArray, List.set_cons_zero, List.set_cons_succ]
            refine wpAnyH_take (i := 9) (v := ?_) rfl (by kernel_rfl) (by kernel_rfl) (by kernel_rfl) (fun _ _ _ h => h) (Or.inl ⟨by rfl, ?_⟩) (by assumption) ?_
            rotate_left 1
            · intro w hSw
              go_simp
              try with_reducible rfl
            try simp only [Act.put, List.getElem_toArray, List.getElem_cons_zero, List.getElem_cons_succ, List.setIfInBounds_toArray, List.set_cons_zero, List.set_cons_succ]
            refine wpAnyH_done (by kernel_rfl) ?_ _
            go_upto_region 33 with fail
            by_cases h87 : (j : Int) % 8 = 7
            · go_wp2_with fail
              have hfew := HIO.out.few
              have hsn := HIO.out.sane
              have hg2 := hsn.gt
              have hp2 := hsn.pt
              have HFD := hid_of (found_any HIO.out.st (laid_kept HL.out HIO.out.kp (fun f => f)) (by omega) k hsn.wd h1 h2 u8 _ HIO.out.pis HIO.out.holds hg2.1 (by omega) hp2.1 (by omega) (by omega))
              have hsg := hsn.gp ps.length
              clear hsn hg2 hp2
              refine HFD.out.mono ?_
              rintro e' wF ⟨rfl, hSF, hkF⟩
              have HIF := hid_of (HIO.out.after (mv' := mv) (σ' := σ.get1.gp ps.length) ⟨hSF, kept_of_s hkF, .inl rfl, hsg, fun e he => .inl he⟩ HIO.out.holds)
              clear hSF hkF HFD hsg
              go_wp2
              go_roundw
              case rel => exact ⟨j + 1, _, _, _, by omega, by omega, by go_num, HIF.out.more (by omega) (by omega)⟩
              case measure => simp [intOf]; omega
            · go_wp2
              go_roundw
              case rel => exact ⟨j + 1, _, _, _, by omega, by omega, by go_num, HIO.out.more (by omega) (by omega)⟩
              case measure => simp [intOf]; omega
          · go_wp2_with (refine wpList_load_row rfl 28 _ rfl (wr.heap.size + 1) rfl 28 (List.map (Value.int IntKind.u8) dd).toArray (0, 0) _ HB11.out Tryd.underlying28 rfl hds ?_)
            have HGB := hid_of (HGET.out _ _ mv HIB.out.st (laid_kept HL.out HIB.out.kp (fun f => f)) (by omega))
            clear HGET
            refine HGB.out.2.2.mono ?_
            rintro e' wE ⟨gv, rfl, hgv, hSE, hkE⟩
            obtain ⟨gn, gc, hgg, _, _⟩ := id hgv
            subst hgg
            have HIE := hid_of (HIB.out.after (mv' := mv) (σ' := σ.get1) ⟨hSE, kept_of_s hkE, .inl rfl, HIB.out.sane.get1, fun e he => .inl he⟩ HIB.out.holds)
            have HGV := hid_of hgv
            have HB12 := hid_of ((hkE.block _ (heap_lt HB11.out) (by omega)).trans HB11.out)
            clear hgv hSE hkE HB11
            have hqb : (q == 0) = false := by simpa using hq
            clear HGB HQD
            go_wp2
            refine wp_region_held_drew (S := fun w' => w'.heap[wr.heap.size + 1]? = some (.cells (List.map (Value.int IntKind.u8) dd).toArray 28 (0, 0))) (by kernel_rfl) HB12.out (fun hHeld => ?_)
            refine wpAnyH_take (i := 0) (v := ?_) rfl (by kernel_rfl) (by kernel_rfl) (by kernel_rfl) (fun _ _ _ h => h) (Or.inl ⟨by rfl, ?_⟩) (by assumption) ?_
            rotate_left 1
            · intro w hSw
              go_simp
              try with_reducible rfl
            try simp only [Act.put, List.getElem_toArray, List.getElem_cons_zero, List.getElem_cons_succ, List.setIfInBounds_toArray, List.set_cons_zero, List.set_cons_succ]
            refine wpAnyH_take (i := 1) (v := ?_) rfl (by kernel_rfl) (by kernel_rfl) (by kernel_rfl) (fun _ _ _ h => h) (Or.inl ⟨by rfl, ?_⟩) (by assumption) ?_
            rotate_left 1
            · intro w hSw
              go_simp
              try with_reducible rfl
            try simp only [Act.put, List.getElem_toArray, List.getElem_cons_zero, List.getElem_cons_succ, List.setIfInBounds_toArray, List.set_cons_zero, List.set_cons_succ]
            refine wpAnyH_take (i := 2) (v := ?_) rfl (by kernel_rfl) (by kernel_rfl) (by kernel_rfl) (fun _ _ _ h => h) (Or.inl ⟨by rfl, ?_⟩) (by assumption) ?_
            rotate_left 1
            · intro w hSw
              go_simp
              try with_reducible rfl
            try simp only [Act.put, List.getElem_toArray, List.getElem_cons_zero, List.getElem_cons_succ, List.setIfInBounds_toArray, List.set_cons_zero, List.set_cons_succ]
            refine wpAnyH_take (i := 3) (v := undef) rfl (by kernel_rfl) (by kernel_rfl) (by kernel_rfl) (fun _ _ _ h => h) (Or.inr ⟨by rfl, rfl⟩) (by assumption) ?_
            try simp only [Act.put, List.getElem_toArray, List.getElem_cons_zero, List.getElem_cons_succ, List.setIfInBounds_toArray, List.set_cons_zero, List.set_cons_succ]
            refine wpAnyH_take (i := 5) (v := undef) rfl (by kernel_rfl) (by kernel_rfl) (by kernel_rfl) (fun _ _ _ h => h) (Or.inr ⟨by rfl, rfl⟩) (by assumption) ?_
            try simp only [Act.put, List.getElem_toArray, List.getElem_cons_zero, List.getElem_cons_succ, List.setIfInBounds_toArray, List.set_cons_zero, List.set_cons_succ]
            refine wpAnyH_take (i := 7) (v := undef) rfl (by kernel_rfl) (by kernel_rfl) (by kernel_rfl) (fun _ _ _ h => h) (Or.inr ⟨by rfl, rfl⟩) (by assumption) ?_
            try simp only [Act.put, List.getElem_toArray, List.getElem_cons_zero, List.getElem_cons_succ, List.setIfInBounds_toArray, List.set_cons_zero, List.set_cons_succ]
            refine wpAnyH_ready (rs := [4]) (by kernel_rfl) (by simp) ?_
            refine AllReadyH.cons rfl (fun K hK => ?_) AllReadyH.nil
            go_simp
            refine hK.out _ _ HB12.out (fun hHeld => ?_)
            clear hK K
            try simp only [Act.put, List.getElem_toArray, List.getElem_cons_zero, List.getElem_cons_succ, List.setIfInBounds_toArray, List.set_cons_zero, List.set_cons_succ]
            refine wpAnyH_ready (rs := [6]) (by kernel_rfl) (by simp) ?_
            refine AllReadyH.cons rfl (fun K hK => ?_) AllReadyH.nil
            go_simp
            refine hK.out _ _ HB12.out (fun hHeld => ?_)
            clear hK K
            try simp only [Act.put, List.getElem_toArray, List.getElem_cons_zero, List.getElem_cons_succ, List.setIfInBounds_toArray, List.set_cons_zero, List.set_cons_succ]
            refine wpAnyH_take (i := 8) (v := undef) rfl (by kernel_rfl) (by kernel_rfl) (by kernel_rfl) (fun _ _ _ h => h) (Or.inr ⟨by rfl, rfl⟩) (by assumption) ?_
            try simp only [Act.put, List.getElem_toArray, List.getElem_cons_zero, List.getElem_cons_succ, List.setIfInBounds_toArray, List.set_cons_zero, List.set_cons_succ]
            refine wpAnyH_take (i := 9) (v := ?_) rfl (by kernel_rfl) (by kernel_rfl) (by kernel_rfl) (fun _ _ _ h => h) (Or.inl ⟨by rfl, ?_⟩) (by assumption) ?_
            rotate_left 1
            · intro w hSw
              go_simp
              try with_reducible rfl
            try simp only [Act.put, List.getElem_toArray, List.getElem_cons_zero, List.getElem_cons_succ, List.setIfInBounds_toArray, List.set_cons_zero, List.set_cons_succ]
            refine wpAnyH_done (by kernel_rfl) ?_ _
            have HIO : Hid (Inv W wE.drew W.heap.size k (1000 * j + 1) j u8 mv σ.get1 ps) := HIE.out.quiet (Kept.refl (fun _ => False) wE).drew
            go_upto_region 33 with fail
            by_cases h87 : (j : Int) % 8 = 7
            · go_wp2_with fail
              have hfew := HIO.out.few
              have hsn := HIO.out.sane
              have hg2 := hsn.gt
              have hp2 := hsn.pt
              have HFD := hid_of (found_any HIO.out.st (laid_kept HL.out HIO.out.kp (fun f => f)) (by omega) k hsn.wd h1 h2 u8 _ HIO.out.pis HIO.out.holds hg2.1 (by omega) hp2.1 (by omega) (by omega))
              have hsg := hsn.gp ps.length
              clear hsn hg2 hp2
              refine HFD.out.mono ?_
              rintro e' wF ⟨rfl, hSF, hkF⟩
              have HIF := hid_of (HIO.out.after (mv' := mv) (σ' := σ.get1.gp ps.length) ⟨hSF, kept_of_s hkF, .inl rfl, hsg, fun e he => .inl he⟩ HIO.out.holds)
              clear hSF hkF HFD hsg
              go_wp2
              go_roundw
              case rel => exact ⟨j + 1, _, _, _, by omega, by omega, by go_num, HIF.out.more (by omega) (by omega)⟩
              case measure => simp [intOf]; omega
            · go_wp2
              go_roundw
              case rel => exact ⟨j + 1, _, _, _, by omega, by omega, by go_num, HIO.out.more (by omega) (by omega)⟩
              case measure => simp [intOf]; omega
        have hK7 : (t.kd == 7) = false := by simpa using hk7
        clear hk7
        have hK5 : (t.kd == 5) = false := by simpa using hk5
        clear hk5
        have hK6 : (t.kd == 6) = false := by simpa using hk6
        clear hk6
        have hK1 : (t.kd == 1) = false := by simpa using hk1
        clear hk1
        have hK2 : (t.kd == 2) = false := by simpa using hk2
        clear hk2
        go_upto_region 33 with fail
        by_cases h87 : (j : Int) % 8 = 7
        · go_wp2_with fail
          have hfew := HIB.out.few
          have hsn := HIB.out.sane
          have hg2 := hsn.gt
          have hp2 := hsn.pt
          have HFD := hid_of (found_any HIB.out.st (laid_kept HL.out HIB.out.kp (fun f => f)) (by omega) k hsn.wd h1 h2 u8 _ HIB.out.pis HIB.out.holds hg2.1 (by omega) hp2.1 (by omega) (by omega))
          have hsg := hsn.gp ps.length
          clear hsn hg2 hp2
          refine HFD.out.mono ?_
          rintro e' wF ⟨rfl, hSF, hkF⟩
          have HIF := hid_of (HIB.out.after (mv' := mv) (σ' := σ.gp ps.length) ⟨hSF, kept_of_s hkF, .inl rfl, hsg, fun e he => .inl he⟩ HIB.out.holds)
          clear hSF hkF HFD hsg
          go_wp2
          go_roundw
          case rel => exact ⟨j + 1, _, _, _, by omega, by omega, by go_num, HIF.out.more (by omega) (by omega)⟩
          case measure => simp [intOf]; omega
        · go_wp2
          go_roundw
          case rel => exact ⟨j + 1, _, _, _, by omega, by omega, by go_num, HIB.out.more (by omega) (by omega)⟩
          case measure => simp [intOf]; omega
    · by_cases hjt : j < ts.length
      · have hj9 : j = 300 := by omega
        have hjI : (j : Int) < (ts.length : Int) := by omega
        have hj3I : ¬ (j : Int) < 300 := by omega
        clear hj9
        have hfew := HI.out.few
        have hsn := HI.out.sane
        have hg2 := hsn.gt
        have hp2 := hsn.pt
        have HFD := hid_of (found_any HI.out.st (laid_kept HL.out HI.out.kp (fun f => f)) (by omega) k hsn.wd h1 h2 u8 _ HI.out.pis HI.out.holds hg2.1 (by omega) hp2.1 (by omega) (by omega))
        have hKI := hid_of HI.out
        clear hsn hg2 hp2 hI
        go_wp2_with fail
        refine HFD.out.mono ?_
        rintro e' wF ⟨rfl, hSF, hkF⟩
        have HKF := hid_of (kept_s HI.out.kp hkF (Nat.le_refl _))
        clear hSF hkF HFD
        have HHD := hid_of (head_any wF (laid_kept HL.out HKF.out (fun f => f)))
        go_wp2_with fail
        refine HHD.out.mono ?_
        rintro e' wH ⟨rfl, hkH⟩
        have HKH := hid_of (HKF.out.trans hkH)
        clear hkH HHD
        go_wp2
        go_ret
        exact ⟨rfl, HKH.out⟩
      · have hjI : ¬ (j : Int) < (ts.length : Int) := by omega
        have hfew := HI.out.few
        have hsn := HI.out.sane
        have hg2 := hsn.gt
        have hp2 := hsn.pt
        have HFD := hid_of (found_any HI.out.st (laid_kept HL.out HI.out.kp (fun f => f)) (by omega) k hsn.wd h1 h2 u8 _ HI.out.pis HI.out.holds hg2.1 (by omega) hp2.1 (by omega) (by omega))
        have hKI := hid_of HI.out
        clear hsn hg2 hp2 hI
        go_wp2_with fail
        refine HFD.out.mono ?_
        rintro e' wF ⟨rfl, hSF, hkF⟩
        have HKF := hid_of (kept_s HI.out.kp hkF (Nat.le_refl _))
        clear hSF hkF HFD
        have HHD := hid_of (head_any wF (laid_kept HL.out HKF.out (fun f => f)))
        go_wp2_with fail
        refine HHD.out.mono ?_
        rintro e' wH ⟨rfl, hkH⟩
        have HKH := hid_of (HKF.out.trans hkH)
        clear hkH HHD
        go_wp2
        go_ret
        exact ⟨rfl, HKH.out⟩
end Go.Proofs.YtjdbmjkidljhpaaDoor

/-
  CasRoom: the walk.
-/
import Derived.Test.YtjdbmjkidljhpaaDoorCg
namespace Go.Proofs.YtjdbmjkidljhpaaDoor
open Go.RowKit
set_option linter.unusedVariables false
set_option linter.unusedSimpArgs false
set_option maxRecDepth 100000

set_option maxHeartbeats 16000000 in
theorem croom_walk (x y : Int) (v : Value) (ts : List Stp) (W : World) (hx0 : -9223372036854775808 ≤ x) (hx1 : x ≤ 9223372036854775807) (hy0 : -9223372036854775808 ≤ y) (hy1 : y ≤ 9223372036854775807) (hL : Laid W) (ht : TIs W v ts) :
    Calls Tryd.prog 4 #[.int .i64 x, .int .i64 y, v] W fun e w' => e = .returned (.bool true) ∧ Kept (fun _ => False) W w' := by
  obtain ⟨ao, cap, hv, hlm, _⟩ := id ht
  subst hv
  obtain ⟨k, hk⟩ : ∃ k : Nat, 1 + x % 32 = (k : Int) := ⟨(1 + x % 32).toNat, by omega⟩
  have h1 : 1 ≤ k := by omega
  have h2 : k ≤ 32 := by omega
  have hL0 := hL.size
  have HL := hid_of hL
  have HT := hid_of ht
  have HFR := hid_of (fresh_full x y W hx0 hx1 hy0 hy1)
  rw [hk] at HFR
  have hcp : y % 67108865 ≤ 67108864 := by omega
  have hcp0 : 0 ≤ y % 67108865 := by omega
  generalize y % 67108865 = cp at *
  clear hk hL ht
  go_enter Tryd.func4, Tryd.ntmps4
  go_wp2_with fail
  refine HFR.out.mono ?_
  rintro e w1 ⟨rfl, rfl⟩
  have HI : Hid (RInv W (W.alloc (.cells ((Sg.new (k : Int) cp).cells (.map none)) 63)) W.heap.size k 0 (.map none) (Sg.new (k : Int) cp)) :=
    ⟨stor_new W k cp, sane_new k cp hcp, fun r hr => (by cases hr), (Kept.refl _ W).alloc _, Nat.le_refl _, hcp0⟩
  generalize W.alloc (.cells ((Sg.new (k : Int) cp).cells (.map none)) 63) = w1 at *
  clear HFR
  go_wp2
  go_loopw [8] (fun i wr => ∃ (j : Nat) (mv : Value) (σ : Sg), j ≤ ts.length ∧ j ≤ 300 ∧ i = .int .i64 j ∧ RInv W wr W.heap.size k (1000 * j) mv σ) (fun i _ => ts.length - (intOf i).toNat)
  case atStart => exact ⟨0, _, _, by omega, by omega, rfl, HI.out⟩
  case round =>
    clear HI
    obtain ⟨j, mv, σ, hj, hj3, rfl, hI⟩ := hrel
    have HI := hid_of hI
    by_cases hlt : j < ts.length ∧ j < 300
    · obtain ⟨t, htj⟩ : ∃ t, ts[j]? = some t := ⟨_, List.getElem?_eq_getElem hlt.1⟩
      obtain ⟨ao', cap', hv', _, hall⟩ := HT.out.stays hI.kp
      cases hv'
      obtain ⟨hOk, g, o, hao, hr⟩ := hall j t htj
      subst hao
      have hjI : (j : Int) < (ts.length : Int) := by omega
      have hj3I : (j : Int) < 300 := by omega
      have hi30 : (Tryd.prog.info? 30).map (·.size) = some t.cells.length := by rw [Stp.clen hOk.dl]; exact info30
      have hi30' : (Tryd.prog.info? 30).map (·.size) = some t.cells.toArray.size := by rw [List.size_toArray]; exact hi30
      have hone := Stp.one hOk
      have HOS : Hid (37 = t.cells.toArray.size) := by show 37 = _; rw [List.size_toArray, Stp.clen hOk.dl]
      have HR := hid_of hr
      have HOK := hid_of hOk
      have HTJ := hid_of htj
      have hLT := hlt
      obtain ⟨bo, bc, hbv, _, _⟩ := id hOk.bb
      obtain ⟨co, cc, hcv, _, _⟩ := id hOk.cb
      have hAT := Stp.at (w := wr.alloc (.cells t.cells.toArray 30)) hOk.dl (alloc_new wr _ rfl)
      have hc0 : t.cells[0]? = some (.int .i64 t.kd) := rfl
      have hc1 : t.cells[1]? = some (.slice bo t.xs.length bc) := by show some t.bv = _; rw [hbv]
      have hc2 : t.cells[2]? = some (.slice co t.ys.length cc) := by show some t.cv = _; rw [hcv]
      have hc35 : t.cells[35]? = some (.bool t.own) := by
        show (t.d.map (Value.int .u8) ++ [.bool t.own, .int .i64 t.n])[32]? = _
        rw [List.getElem?_append_right (by simp [hOk.dl])]
        simp [hOk.dl]
      have hc36 : t.cells[36]? = some (.int .i64 t.n) := by
        show (t.d.map (Value.int .u8) ++ [.bool t.own, .int .i64 t.n])[33]? = _
        rw [List.getElem?_append_right (by simp [hOk.dl])]
        simp [hOk.dl]
      have HBV := hid_of hbv
      have HCV := hid_of hcv
      have HRD := hid_of hAT.2.2.2.1
      have hi28 := size28_list t.d hOk.dl
      have hds := size28_of t.d hOk.dl
      have honed := oneCells .u8 t.d
      have HOD : Hid (32 = (t.d.map (Value.int .u8)).toArray.size) := by show 32 = _; simp [hOk.dl]
      have HIA : Hid (RInv W (wr.alloc (.cells t.cells.toArray 30)) W.heap.size k (1000 * j) mv σ) := hI.quiet ((Kept.refl _ wr).alloc _)
      clear hall hr hOk htj hI hlt hbv hcv hAT
      by_cases hB8 : (8192 : Int) < (t.xs.length : Int)
      · go_wp2_with (first | (refine wpList_load_mid rfl 30 _ rfl g (o + j * 37) rfl t.cells _ HR.out Tryd.underlying30 rfl hi30 ?_) | (refine wpList_store_row rfl 30 _ _ rfl wr.heap.size t.cells.toArray rfl rfl 30 _ (alloc_new _ _ rfl) hi30' HOS.out hone ?_; rw [setRow_new _ _ _ _ rfl]))
        go_roundw
        case rel => exact ⟨j + 1, mv, σ, by omega, by omega, by go_num, HIA.out.more (by omega)⟩
        case measure => simp [intOf]; omega
      by_cases hC8 : (8192 : Int) < (t.ys.length : Int)
      · go_wp2_with (first | (refine wpList_load_mid rfl 30 _ rfl g (o + j * 37) rfl t.cells _ HR.out Tryd.underlying30 rfl hi30 ?_) | (refine wpList_store_row rfl 30 _ _ rfl wr.heap.size t.cells.toArray rfl rfl 30 _ (alloc_new _ _ rfl) hi30' HOS.out hone ?_; rw [setRow_new _ _ _ _ rfl]))
        go_roundw
        case rel => exact ⟨j + 1, mv, σ, by omega, by omega, by go_num, HIA.out.more (by omega)⟩
        case measure => simp [intOf]; omega
      have HOKB : Hid (∀ w' : World, Kept (fun _ => False) W w' → t.Ok w') := fun w' hw' => by
        obtain ⟨ao', cap', hv', _, hall⟩ := HT.out.stays hw'
        cases hv'
        exact (hall j t HTJ.out).1
      obtain ⟨own, hown⟩ : ∃ b, b = t.own := ⟨_, rfl⟩
      rw [← hown] at hc35
      have HOWN := hid_of hown
      clear hown
      have HB10 : Hid (((wr.alloc (Obj.cells t.cells.toArray 30)).alloc (Obj.cells (List.map (Value.int IntKind.u8) t.d).toArray 28)).heap[wr.heap.size]? = some (.cells t.cells.toArray 30 (0, 0))) := ((((Kept.refl (fun _ => False) (wr.alloc (.cells t.cells.toArray 30))).alloc (Obj.cells (List.map (Value.int IntKind.u8) t.d).toArray 28)).block wr.heap.size (by simp) (fun f => f)).trans (alloc_new wr _ rfl) :)
      have HB11 : Hid (((wr.alloc (Obj.cells t.cells.toArray 30)).alloc (Obj.cells (List.map (Value.int IntKind.u8) t.d).toArray 28)).heap[wr.heap.size + 1]? = some (.cells (List.map (Value.int IntKind.u8) t.d).toArray 28 (0, 0))) := alloc_new _ _ (by simp)
      have HIB : Hid (RInv W ((wr.alloc (Obj.cells t.cells.toArray 30)).alloc (Obj.cells (List.map (Value.int IntKind.u8) t.d).toArray 28)) W.heap.size k (1000 * j) mv σ) := HIA.out.quiet ((Kept.refl _ _).alloc _)
      have HKB : Hid (Kept (fun _ => False) wr ((wr.alloc (Obj.cells t.cells.toArray 30)).alloc (Obj.cells (List.map (Value.int IntKind.u8) t.d).toArray 28))) := ((Kept.refl _ wr).alloc _).alloc _
      have hslw : W.heap.size < wr.heap.size := HI.out.st.lt
      go_upto_if 49 with (first | (refine wpList_load_mid rfl 30 _ rfl g (o + j * 37) rfl t.cells _ HR.out Tryd.underlying30 rfl hi30 ?_) | (refine wpList_store_row rfl 30 _ _ rfl wr.heap.size t.cells.toArray rfl rfl 30 _ (alloc_new _ _ rfl) hi30' HOS.out hone ?_; rw [setRow_new _ _ _ _ rfl]) | (refine wpList_load_mid rfl 28 _ rfl wr.heap.size 3 rfl (t.d.map (Value.int .u8)) _ HRD.out Tryd.underlying28 rfl hi28 ?_) | (refine wpList_store_row rfl 28 _ _ rfl (wr.heap.size + 1) (t.d.map (Value.int .u8)).toArray rfl rfl 28 _ (alloc_new _ _ (by simp)) hds HOD.out honed ?_; rw [setRow_new _ _ _ _ (by simp)]))
      generalize ((wr.alloc (Obj.cells t.cells.toArray 30)).alloc (Obj.cells (List.map (Value.int IntKind.u8) t.d).toArray 28)) = wB at *
      clear hc0 hc1 hc2 hc35 hc36 HIA HRD HOD hi28 hds honed HR hi30 hi30' hone HOS
      go_cut [10] from 22 to 165 (fun v10 wx => v10 = .pointer (some ⟨wr.heap.size + 1, 0, none⟩) ∧ ∃ dd : List Int, dd.length = 32 ∧ (∀ x ∈ dd, 0 ≤ x ∧ x < 256) ∧ wx.heap[wr.heap.size + 1]? = some (.cells (dd.map (Value.int .u8)).toArray 28 (0, 0)) ∧ wx.heap[wr.heap.size]? = some (.cells t.cells.toArray 30 (0, 0)) ∧ RInv W wx W.heap.size k (1000 * j) mv σ)
      case first =>
        cases own with
        | true =>
          have hA1 := (Stp.at HOK.out.dl HB10.out).2.1
          rw [HBV.out] at hA1
          have HWD := hid_of (fun w' (hS : Stor w' W.heap.size mv σ) => width_any hS)
          rw [HIB.out.sane.wd] at HWD
          have hbb := (HOKB.out wB HIB.out.kp).bb
          rw [HBV.out] at hbb
          have HBB := hid_of hbb
          have HOF : Hid (∀ W', BIn W' (.slice bo t.xs.length bc) t.xs → Calls Tryd.prog 8 #[.int .i64 (k : Int), .slice bo t.xs.length bc] W' fun e w' => e = .returned (dv (frontOf k t.xs)) ∧ Kept (fun _ => False) W' w') := fun W' hW => rof4_any k h1 h2 _ t.xs W' hW HOK.out.br (by omega)
          unfold dv at HOF
          have HFL : Hid ((frontOf k t.xs).length = 32) := frontOf_len k t.xs h2
          have HFR : Hid (∀ x ∈ frontOf k t.xs, 0 ≤ x ∧ x < 256) := front_range k t.xs h2
          generalize frontOf k t.xs = fr at *
          have hdf := size28_of fr HFL.out
          have honf := oneCells .u8 fr
          have HOF2 : Hid ((List.map (Value.int IntKind.u8) t.d).toArray.size = (fr.map (Value.int .u8)).toArray.size) := by show _ = _; simp [HOK.out.dl, HFL.out]
          clear hbb
          have HC1 := hid_of hA1
          clear hA1
          go_wp2
          refine wp_region_held_drew (S := fun w' => w'.cell? ⟨wr.heap.size, 1, none⟩ = some (.slice bo t.xs.length bc)) (by kernel_rfl) HC1.out (fun hHeld => ?_)
          refine wpAnyH_take (i := 0) (v := ?_) rfl (by kernel_rfl) (by kernel_rfl) (by kernel_rfl) (fun _ _ _ h => h) (Or.inl ⟨by rfl, ?_⟩) (by assumption) ?_
          rotate_left 1
          · intro w hSw
            go_simp
            try with_reducible rfl
          try simp only [Act.put, List.getElem_toArray, List.getElem_cons_zero, List.getElem_cons_succ, List.setIfInBounds_toArray, List.set_cons_zero, List.set_cons_succ]
          refine wpAnyH_take (i := 2) (v := ?_) rfl (by kernel_rfl) (by kernel_rfl) (by kernel_rfl) (fun _ _ _ h => h) (Or.inl ⟨by rfl, ?_⟩) (by assumption) ?_
          rotate_left 1
          · intro w hSw
            go_simp
            try with_reducible rfl
          try simp only [Act.put, List.getElem_toArray, List.getElem_cons_zero, List.getElem_cons_succ, List.setIfInBounds_toArray, List.set_cons_zero, List.set_cons_succ]
          refine wpAnyH_take (i := 3) (v := ?_) rfl (by kernel_rfl) (by kernel_rfl) (by kernel_rfl) (fun _ _ _ h => h) (Or.inl ⟨by rfl, ?_⟩) (by assumption) ?_
          rotate_left 1
          · intro w hSw
            go_simp
            try with_reducible rfl
          try simp only [Act.put, List.getElem_toArray, List.getElem_cons_zero, List.getElem_cons_succ, List.setIfInBounds_toArray, List.set_cons_zero, List.set_cons_succ]
          refine wpAnyH_ready (rs := [1]) (by kernel_rfl) (by simp) ?_
          refine AllReadyH.cons rfl (fun K hK => ?_) AllReadyH.nil
          go_simp
          refine (HWD.out wB.drew (HIB.out.st.kept (Kept.refl (fun _ => False) wB).drew (fun _ _ f => f))).mono ?_
          rintro e w' ⟨rfl, hw'⟩
          have hw'' := hw'.symm
          clear hw'
          subst hw''
          refine hK.out _ _ HC1.out (fun hHeld => ?_)
          clear hK K
          try simp only [Act.put, List.getElem_toArray, List.getElem_cons_zero, List.getElem_cons_succ, List.setIfInBounds_toArray, List.set_cons_zero, List.set_cons_succ]
          refine wpAnyH_ready (rs := [4]) (by kernel_rfl) (by simp) ?_
          refine AllReadyH.cons rfl (fun K hK => ?_) AllReadyH.nil
          go_simp
          refine (HOF.out wB.drew (HBB.out.kept2 (Kept.refl (fun _ => False) wB).drew (fun _ _ _ f => f))).mono ?_
          rintro e wO ⟨rfl, hkO⟩
          have hkO' : Kept (fun _ => False) wB wO := (Kept.refl _ wB).drew.trans hkO
          have HKO := hid_of (HKB.out.trans hkO')
          have HO10 := hid_of ((hkO'.block _ (heap_lt HB10.out) (fun f => f)).trans HB10.out)
          have HO11 := hid_of ((hkO'.block _ (heap_lt HB11.out) (fun f => f)).trans HB11.out)
          have HC2 : Hid (wO.cell? ⟨wr.heap.size, 1, none⟩ = some (.slice bo t.xs.length bc)) := hkO'.cell HC1.out (fun f => f)
          clear hkO hkO'
          refine hK.out _ _ HC2.out (fun hHeld => ?_)
          clear hK K
          try simp only [Act.put, List.getElem_toArray, List.getElem_cons_zero, List.getElem_cons_succ, List.setIfInBounds_toArray, List.set_cons_zero, List.set_cons_succ]
          refine wpAnyH_ready (rs := [5]) (by kernel_rfl) (by simp) ?_
          refine AllReadyH.cons rfl (fun K hK => ?_) AllReadyH.nil
          refine stp_store_row rfl 28 _ _ rfl (wr.heap.size + 1) (fr.map (Value.int .u8)).toArray rfl rfl 28 _ HO11.out hdf HOF2.out honf ?_
          have HP := hid_of (rown_row HI.out HKO.out HO10.out HO11.out (fr.map (Value.int .u8)).toArray)
          have HC3 : Hid ((wO.setRow (wr.heap.size + 1) (List.map (Value.int IntKind.u8) fr).toArray).cell? ⟨wr.heap.size, 1, none⟩ = some (.slice bo t.xs.length bc)) := by
            have := (Stp.at HOK.out.dl HP.out.1).2.1
            rw [HBV.out] at this
            exact this
          generalize hwS : (wO.setRow (wr.heap.size + 1) (List.map (Value.int IntKind.u8) fr).toArray) = wS at *
          refine hK.out _ _ HC3.out (fun hHeld => ?_)
          clear hK K
          try simp only [Act.put, List.getElem_toArray, List.getElem_cons_zero, List.getElem_cons_succ, List.setIfInBounds_toArray, List.set_cons_zero, List.set_cons_succ]
          refine wpAnyH_done (by kernel_rfl) ?_ _
          go_wp2
          go_meet
          case rel => exact ⟨rfl, fr, HFL.out, HFR.out, HP.out.2.1, HP.out.1, HP.out.2.2⟩
        | false =>
          go_wp2
          go_meet
          case rel => exact ⟨rfl, t.d, HOK.out.dl, HOK.out.dr, HB11.out, HB10.out, HIB.out⟩
      case rest =>
        clear HB10 HB11 HIB HKB
        obtain ⟨rfl, dd, hdl, hdr, hb11, hb10, hib⟩ := hcut
        have HB11 := hid_of hb11
        have HB10 := hid_of hb10
        have HIB := hid_of hib
        have HDL := hid_of hdl
        have HDR := hid_of hdr
        obtain ⟨hc0, hc1, hc2, _, _, hc36⟩ := Stp.at HOK.out.dl hb10
        rw [HBV.out] at hc1
        rw [HCV.out] at hc2
        have hds := size28_of dd hdl
        clear hb11 hb10 hib hdl hdr
        have hus0 := HIB.out.sane.us0
        have hust := HIB.out.sane.top
        have HRL := hid_of (raw_len HIB.out.st dd)
        have HRAW := hid_of (raw_any HIB.out.st dd HDL.out)
        unfold dv at HRAW
        go_wp2_with fail
        refine (used_any HIB.out.st).mono ?_
        rintro e' wU ⟨rfl, hwU⟩
        subst hwU
        go_wp2_with (refine wpList_load_row rfl 28 _ rfl (wr.heap.size + 1) rfl 28 (List.map (Value.int IntKind.u8) dd).toArray (0, 0) _ HB11.out Tryd.underlying28 rfl hds ?_)
        refine HRAW.out.mono ?_
        rintro e' wR ⟨hv, rfl, hbin, _, hkR⟩
        obtain ⟨ha, hcp', hhv, _, _⟩ := id hbin
        subst hhv
        have HIR := hid_of (HIB.out.quiet hkR)
        have HB11R := hid_of ((hkR.block _ (heap_lt HB11.out) (fun f => f)).trans HB11.out)
        have HB10R := hid_of ((hkR.block _ (heap_lt HB10.out) (fun f => f)).trans HB10.out)
        obtain ⟨hd0, hd1, hd2, _, _, _⟩ := Stp.at HOK.out.dl HB10R.out
        rw [HBV.out] at hd1
        rw [HCV.out] at hd2
        clear hbin hkR HRAW HIB HB11 HB10 hc0 hc1 hc2 hc36
        have HB11 := HB11R
        have HB10 := HB10R
        have HIB := HIR
        clear HB11R HB10R HIR
        have HCS := hid_of (fun h => cost_some (es := σ.es) (d := dd) h)
        have HCN := hid_of (fun h => cost_none (es := σ.es) (d := dd) h)
        by_cases hk5 : t.kd = 5
        · have hkd := hk5
          clear hk5
          have hK1 : (t.kd == 1) = false := by rw [hkd]; rfl
          have hK6 : (t.kd == 6) = false := by rw [hkd]; rfl
          have hK5 : (t.kd == 5) = true := by rw [hkd]; rfl
          have HKD := hid_of hkd
          clear hkd
          have hev := evict_room k _ σ HIB.out.sane HIB.out.cap dd HDL.out
          have HEV := hid_of hev
          clear hev
          unfold dv at HEV
          have hrl := HRL.out
          generalize (rawX σ.es dd).length = rl at *
          generalize (look σ.es dd).isSome = b at *
          cases b with
          | true =>
            go_wp2_with (refine wpList_load_row rfl 28 _ rfl (wr.heap.size + 1) rfl 28 (List.map (Value.int IntKind.u8) dd).toArray (0, 0) _ HB11.out Tryd.underlying28 rfl hds ?_)
            refine (HEV.out _ _ mv HIB.out.st).mono ?_
            rintro e' wE ⟨rfl, σ', hA, hcap, hus⟩
            have HIA := hid_of (HIB.out.after hA hcap)
            clear hA hcap HEV
            have hus2 : σ'.us = σ.us - (rl : Int) - 32 := by rw [hus, HCS.out (by simp)]; omega
            clear hus
            have wr1 : IntKind.i64.wrap (σ.us - (rl : Int)) = σ.us - (rl : Int) := by rw [IntKind.wrap_i64]; omega
            have wr2 : IntKind.i64.wrap (σ.us - (rl : Int) - 32) = σ.us - (rl : Int) - 32 := by rw [IntKind.wrap_i64]; omega
            go_wp2_with fail
            refine (used_any HIA.out.st).mono ?_
            rintro e' wU2 ⟨rfl, hwU⟩
            subst hwU
            rw [hus2]
            go_wp2_with fail
            have HRK := hid_of HIA.out.reck
            refine HRK.out.mono ?_
            rintro e' wQ ⟨rfl, hkQ⟩
            have HIQ := hid_of (HIA.out.quiet hkQ)
            clear hkQ HRK
            go_wp2_with fail
            refine (used_any HIQ.out.st).mono ?_
            rintro e' wQ2 ⟨rfl, hwQ⟩
            subst hwQ
            go_wp2_with fail
            refine (cap_any HIQ.out.st).mono ?_
            rintro e' wQ3 ⟨rfl, hwQ⟩
            subst hwQ
            have hcpp := Int.not_lt.2 HIQ.out.cap
            go_wp2
            go_roundw
            case rel => exact ⟨j + 1, _, _, by omega, by omega, by go_num, HIQ.out.more (by omega)⟩
            case measure => simp [intOf]; omega
          | false =>
            go_wp2_with (refine wpList_load_row rfl 28 _ rfl (wr.heap.size + 1) rfl 28 (List.map (Value.int IntKind.u8) dd).toArray (0, 0) _ HB11.out Tryd.underlying28 rfl hds ?_)
            refine (HEV.out _ _ mv HIB.out.st).mono ?_
            rintro e' wE ⟨rfl, σ', hA, hcap, hus⟩
            have HIA := hid_of (HIB.out.after hA hcap)
            clear hA hcap HEV
            clear hus
            go_wp2_with fail
            have HRK := hid_of HIA.out.reck
            refine HRK.out.mono ?_
            rintro e' wQ ⟨rfl, hkQ⟩
            have HIQ := hid_of (HIA.out.quiet hkQ)
            clear hkQ HRK
            go_wp2_with fail
            refine (used_any HIQ.out.st).mono ?_
            rintro e' wQ2 ⟨rfl, hwQ⟩
            subst hwQ
            go_wp2_with fail
            refine (cap_any HIQ.out.st).mono ?_
            rintro e' wQ3 ⟨rfl, hwQ⟩
            subst hwQ
            have hcpp := Int.not_lt.2 HIQ.out.cap
            go_wp2
            go_roundw
            case rel => exact ⟨j + 1, _, _, by omega, by omega, by go_num, HIQ.out.more (by omega)⟩
            case measure => simp [intOf]; omega
        by_cases hk6 : t.kd = 6
        · have hkd := hk6
          clear hk6
          have hK1 : (t.kd == 1) = false := by rw [hkd]; rfl
          have hK6 : (t.kd == 6) = true := by rw [hkd]; rfl
          have hK5 : (t.kd == 5) = false := by rw [hkd]; rfl
          have HKD := hid_of hkd
          clear hkd
          obtain ⟨q, hpl⟩ := plant_room k _ (by omega) σ HIB.out.sane HIB.out.cap dd HDL.out HDR.out t.ys HOK.out.cr (by omega)
          have HPL := hid_of hpl
          clear hpl
          unfold dv at HPL
          have hrl := HRL.out
          generalize (rawX σ.es dd).length = rl at *
          generalize (look σ.es dd).isSome = b at *
          by_cases hq : q = 0
          · subst hq
            cases b with
            | true =>
              go_wp2_with (refine wpList_load_row rfl 28 _ rfl (wr.heap.size + 1) rfl 28 (List.map (Value.int IntKind.u8) dd).toArray (0, 0) _ HB11.out Tryd.underlying28 rfl hds ?_)
              have hcb := (HOKB.out _ HIB.out.kp).cb
              rw [HCV.out] at hcb
              have HPLB := hid_of (HPL.out _ _ mv _ HIB.out.st hcb)
              clear hcb HPL
              refine HPLB.out.mono ?_
              rintro e' wE ⟨rfl, mv', σ', hA, hcap, hq1, hq2⟩
              have HIA := hid_of (HIB.out.after hA hcap)
              have HE10 := hid_of ((hA.kp.block _ (heap_lt HB10.out) (cells_not_map (r := 0) HB10.out HIB.out.st (by omega))).trans HB10.out)
              have hq12 := And.intro hq1 hq2
              clear hA hcap HPLB hq1 hq2
              obtain ⟨_, _, he2, _, _, _⟩ := Stp.at HOK.out.dl HE10.out
              rw [HCV.out] at he2
              have hus2 : σ'.us = σ.us - (rl : Int) + (t.ys.length : Int) := by rw [hq12.2 (by simp), used_cost, HCS.out (by simp)]; omega
              clear hq12
              have HUW : Hid (∀ q, Calls Tryd.prog 18 #[.pointer (some ⟨W.heap.size, 0, none⟩)] (wE.drewN q) fun e w' => e = .returned (.int .i64 σ'.us) ∧ w' = wE.drewN q) := fun q => used_any (HIA.out.st.kept (kept_drewN (Kept.refl (fun _ => False) wE) q) (fun _ _ f => f))
              rw [hus2] at HUW
              have wr1 : IntKind.i64.wrap (σ.us - (rl : Int)) = σ.us - (rl : Int) := by rw [IntKind.wrap_i64]; omega
              have wr2 : IntKind.i64.wrap (σ.us - (rl : Int) + (t.ys.length : Int)) = σ.us - (rl : Int) + (t.ys.length : Int) := by rw [IntKind.wrap_i64]; omega
              have wr3 : IntKind.i64.wrap (σ.us + (t.ys.length : Int)) = σ.us + (t.ys.length : Int) := by rw [IntKind.wrap_i64]; omega
              have wr4 : IntKind.i64.wrap (σ.us + (t.ys.length : Int) + 32) = σ.us + (t.ys.length : Int) + 32 := by rw [IntKind.wrap_i64]; omega
              go_wp2
              go_quiet (first | (go_at_call 18; exact (HUW.out _).mono (fun _ _ h => ⟨h.1, _, h.2⟩)))
              have HIZ := hid_of (HIA.out.quiet (kept_drewN (Kept.refl (fun _ => False) wE) nq))
              go_wp2_with fail
              have HRK := hid_of HIZ.out.reck
              refine HRK.out.mono ?_
              rintro e' wQ ⟨rfl, hkQ⟩
              have HIQ := hid_of (HIZ.out.quiet hkQ)
              clear hkQ HRK
              go_wp2_with fail
              refine (used_any HIQ.out.st).mono ?_
              rintro e' wQ2 ⟨rfl, hwQ⟩
              subst hwQ
              go_wp2_with fail
              refine (cap_any HIQ.out.st).mono ?_
              rintro e' wQ3 ⟨rfl, hwQ⟩
              subst hwQ
              have hcpp := Int.not_lt.2 HIQ.out.cap
              go_wp2
              go_roundw
              case rel => exact ⟨j + 1, _, _, by omega, by omega, by go_num, HIQ.out.more (by omega)⟩
              case measure => simp [intOf]; omega
            | false =>
              go_wp2_with (refine wpList_load_row rfl 28 _ rfl (wr.heap.size + 1) rfl 28 (List.map (Value.int IntKind.u8) dd).toArray (0, 0) _ HB11.out Tryd.underlying28 rfl hds ?_)
              have hcb := (HOKB.out _ HIB.out.kp).cb
              rw [HCV.out] at hcb
              have HPLB := hid_of (HPL.out _ _ mv _ HIB.out.st hcb)
              clear hcb HPL
              refine HPLB.out.mono ?_
              rintro e' wE ⟨rfl, mv', σ', hA, hcap, hq1, hq2⟩
              have HIA := hid_of (HIB.out.after hA hcap)
              have HE10 := hid_of ((hA.kp.block _ (heap_lt HB10.out) (cells_not_map (r := 0) HB10.out HIB.out.st (by omega))).trans HB10.out)
              have hq12 := And.intro hq1 hq2
              clear hA hcap HPLB hq1 hq2
              obtain ⟨_, _, he2, _, _, _⟩ := Stp.at HOK.out.dl HE10.out
              rw [HCV.out] at he2
              have hus2 : σ'.us = σ.us + (t.ys.length : Int) + 32 := by rw [hq12.2 (by simp), used_cost, HCN.out (by simp)]; omega
              clear hq12
              have HUW : Hid (∀ q, Calls Tryd.prog 18 #[.pointer (some ⟨W.heap.size, 0, none⟩)] (wE.drewN q) fun e w' => e = .returned (.int .i64 σ'.us) ∧ w' = wE.drewN q) := fun q => used_any (HIA.out.st.kept (kept_drewN (Kept.refl (fun _ => False) wE) q) (fun _ _ f => f))
              rw [hus2] at HUW
              have wr1 : IntKind.i64.wrap (σ.us - (rl : Int)) = σ.us - (rl : Int) := by rw [IntKind.wrap_i64]; omega
              have wr2 : IntKind.i64.wrap (σ.us - (rl : Int) + (t.ys.length : Int)) = σ.us - (rl : Int) + (t.ys.length : Int) := by rw [IntKind.wrap_i64]; omega
              have wr3 : IntKind.i64.wrap (σ.us + (t.ys.length : Int)) = σ.us + (t.ys.length : Int) := by rw [IntKind.wrap_i64]; omega
              have wr4 : IntKind.i64.wrap (σ.us + (t.ys.length : Int) + 32) = σ.us + (t.ys.length : Int) + 32 := by rw [IntKind.wrap_i64]; omega
              go_wp2
              go_quiet (first | (go_at_call 18; exact (HUW.out _).mono (fun _ _ h => ⟨h.1, _, h.2⟩)))
              have HIZ := hid_of (HIA.out.quiet (kept_drewN (Kept.refl (fun _ => False) wE) nq))
              go_wp2_with fail
              have HRK := hid_of HIZ.out.reck
              refine HRK.out.mono ?_
              rintro e' wQ ⟨rfl, hkQ⟩
              have HIQ := hid_of (HIZ.out.quiet hkQ)
              clear hkQ HRK
              go_wp2_with fail
              refine (used_any HIQ.out.st).mono ?_
              rintro e' wQ2 ⟨rfl, hwQ⟩
              subst hwQ
              go_wp2_with fail
              refine (cap_any HIQ.out.st).mono ?_
              rintro e' wQ3 ⟨rfl, hwQ⟩
              subst hwQ
              have hcpp := Int.not_lt.2 HIQ.out.cap
              go_wp2
              go_roundw
              case rel => exact ⟨j + 1, _, _, by omega, by omega, by go_num, HIQ.out.more (by omega)⟩
              case measure => simp [intOf]; omega
          · have hqb : (q == 0) = false := by simpa using hq
            have hqn : (q != 0) = true := by simpa using hq
            cases b with
            | true =>
              go_wp2_with (refine wpList_load_row rfl 28 _ rfl (wr.heap.size + 1) rfl 28 (List.map (Value.int IntKind.u8) dd).toArray (0, 0) _ HB11.out Tryd.underlying28 rfl hds ?_)
              have hcb := (HOKB.out _ HIB.out.kp).cb
              rw [HCV.out] at hcb
              have HPLB := hid_of (HPL.out _ _ mv _ HIB.out.st hcb)
              clear hcb HPL
              refine HPLB.out.mono ?_
              rintro e' wE ⟨rfl, mv', σ', hA, hcap, hq1, hq2⟩
              have HIA := hid_of (HIB.out.after hA hcap)
              have HE10 := hid_of ((hA.kp.block _ (heap_lt HB10.out) (cells_not_map (r := 0) HB10.out HIB.out.st (by omega))).trans HB10.out)
              have hq12 := And.intro hq1 hq2
              clear hA hcap HPLB hq1 hq2
              obtain ⟨_, _, he2, _, _, _⟩ := Stp.at HOK.out.dl HE10.out
              rw [HCV.out] at he2
              have hus2 : σ'.us = σ.us := hq12.1 hq
              clear hq12
              have HUW : Hid (∀ q, Calls Tryd.prog 18 #[.pointer (some ⟨W.heap.size, 0, none⟩)] (wE.drewN q) fun e w' => e = .returned (.int .i64 σ'.us) ∧ w' = wE.drewN q) := fun q => used_any (HIA.out.st.kept (kept_drewN (Kept.refl (fun _ => False) wE) q) (fun _ _ f => f))
              rw [hus2] at HUW
              have wr1 : IntKind.i64.wrap (σ.us - (rl : Int)) = σ.us - (rl : Int) := by rw [IntKind.wrap_i64]; omega
              have wr2 : IntKind.i64.wrap (σ.us - (rl : Int) + (t.ys.length : Int)) = σ.us - (rl : Int) + (t.ys.length : Int) := by rw [IntKind.wrap_i64]; omega
              have wr3 : IntKind.i64.wrap (σ.us + (t.ys.length : Int)) = σ.us + (t.ys.length : Int) := by rw [IntKind.wrap_i64]; omega
              have wr4 : IntKind.i64.wrap (σ.us + (t.ys.length : Int) + 32) = σ.us + (t.ys.length : Int) + 32 := by rw [IntKind.wrap_i64]; omega
              go_wp2
              go_quiet (first | (go_at_call 18; exact (HUW.out _).mono (fun _ _ h => ⟨h.1, _, h.2⟩)))
              have HIZ := hid_of (HIA.out.quiet (kept_drewN (Kept.refl (fun _ => False) wE) nq))
              go_wp2_with fail
              have HRK := hid_of HIZ.out.reck
              refine HRK.out.mono ?_
              rintro e' wQ ⟨rfl, hkQ⟩
              have HIQ := hid_of (HIZ.out.quiet hkQ)
              clear hkQ HRK
              go_wp2_with fail
              refine (used_any HIQ.out.st).mono ?_
              rintro e' wQ2 ⟨rfl, hwQ⟩
              subst hwQ
              go_wp2_with fail
              refine (cap_any HIQ.out.st).mono ?_
              rintro e' wQ3 ⟨rfl, hwQ⟩
              subst hwQ
              have hcpp := Int.not_lt.2 HIQ.out.cap
              go_wp2
              go_roundw
              case rel => exact ⟨j + 1, _, _, by omega, by omega, by go_num, HIQ.out.more (by omega)⟩
              case measure => simp [intOf]; omega
            | false =>
              go_wp2_with (refine wpList_load_row rfl 28 _ rfl (wr.heap.size + 1) rfl 28 (List.map (Value.int IntKind.u8) dd).toArray (0, 0) _ HB11.out Tryd.underlying28 rfl hds ?_)
              have hcb := (HOKB.out _ HIB.out.kp).cb
              rw [HCV.out] at hcb
              have HPLB := hid_of (HPL.out _ _ mv _ HIB.out.st hcb)
              clear hcb HPL
              refine HPLB.out.mono ?_
              rintro e' wE ⟨rfl, mv', σ', hA, hcap, hq1, hq2⟩
              have HIA := hid_of (HIB.out.after hA hcap)
              have HE10 := hid_of ((hA.kp.block _ (heap_lt HB10.out) (cells_not_map (r := 0) HB10.out HIB.out.st (by omega))).trans HB10.out)
              have hq12 := And.intro hq1 hq2
              clear hA hcap HPLB hq1 hq2
              obtain ⟨_, _, he2, _, _, _⟩ := Stp.at HOK.out.dl HE10.out
              rw [HCV.out] at he2
              have hus2 : σ'.us = σ.us := hq12.1 hq
              clear hq12
              have HUW : Hid (∀ q, Calls Tryd.prog 18 #[.pointer (some ⟨W.heap.size, 0, none⟩)] (wE.drewN q) fun e w' => e = .returned (.int .i64 σ'.us) ∧ w' = wE.drewN q) := fun q => used_any (HIA.out.st.kept (kept_drewN (Kept.refl (fun _ => False) wE) q) (fun _ _ f => f))
              rw [hus2] at HUW
              have wr1 : IntKind.i64.wrap (σ.us - (rl : Int)) = σ.us - (rl : Int) := by rw [IntKind.wrap_i64]; omega
              have wr2 : IntKind.i64.wrap (σ.us - (rl : Int) + (t.ys.length : Int)) = σ.us - (rl : Int) + (t.ys.length : Int) := by rw [IntKind.wrap_i64]; omega
              have wr3 : IntKind.i64.wrap (σ.us + (t.ys.length : Int)) = σ.us + (t.ys.length : Int) := by rw [IntKind.wrap_i64]; omega
              have wr4 : IntKind.i64.wrap (σ.us + (t.ys.length : Int) + 32) = σ.us + (t.ys.length : Int) + 32 := by rw [IntKind.wrap_i64]; omega
              go_wp2
              go_quiet (first | (go_at_call 18; exact (HUW.out _).mono (fun _ _ h => ⟨h.1, _, h.2⟩)))
              have HIZ := hid_of (HIA.out.quiet (kept_drewN (Kept.refl (fun _ => False) wE) nq))
              go_wp2_with fail
              have HRK := hid_of HIZ.out.reck
              refine HRK.out.mono ?_
              rintro e' wQ ⟨rfl, hkQ⟩
              have HIQ := hid_of (HIZ.out.quiet hkQ)
              clear hkQ HRK
              go_wp2_with fail
              refine (used_any HIQ.out.st).mono ?_
              rintro e' wQ2 ⟨rfl, hwQ⟩
              subst hwQ
              go_wp2_with fail
              refine (cap_any HIQ.out.st).mono ?_
              rintro e' wQ3 ⟨rfl, hwQ⟩
              subst hwQ
              have hcpp := Int.not_lt.2 HIQ.out.cap
              go_wp2
              go_roundw
              case rel => exact ⟨j + 1, _, _, by omega, by omega, by go_num, HIQ.out.more (by omega)⟩
              case measure => simp [intOf]; omega
        by_cases hk1 : t.kd = 1
        · have hkd := hk1
          clear hk1
          have hK1 : (t.kd == 1) = true := by rw [hkd]; rfl
          have hK6 : (t.kd == 6) = false := by rw [hkd]; rfl
          have hK5 : (t.kd == 5) = false := by rw [hkd]; rfl
          have HKD := hid_of hkd
          clear hkd
          obtain ⟨q, dr, hdrl, hput⟩ := put_room k _ h1 h2 (by omega) σ HIB.out.sane HIB.out.cap t.xs HOK.out.br (by omega)
          have HPUT := hid_of hput
          have hdsr := size28_of dr hdrl
          have honer := oneCells .u8 dr
          have HODR : Hid (32 = (List.map (Value.int IntKind.u8) dr).toArray.size) := by show 32 = _; simp [hdrl]
          clear hput hdrl
          unfold dv at HPUT
          go_wp2_with fail
          have hbb := (HOKB.out _ HIB.out.kp).bb
          rw [HBV.out] at hbb
          have HPB := hid_of (HPUT.out _ _ mv _ HIB.out.st (laid_kept HL.out HIB.out.kp (fun f => f)) (by omega) hbb)
          clear hbb HPUT
          refine HPB.out.mono ?_
          rintro e' wE ⟨rfl, mv', σ', hA, hcap, hqu⟩
          have HIA : Hid (RInv W (wE.alloc (Obj.cells (List.map (Value.int IntKind.u8) dr).toArray 28)) W.heap.size k (1000 * j + 2) mv' σ') := (HIB.out.after hA hcap).quiet ((Kept.refl _ _).alloc _)
          have HQU := hid_of hqu
          clear hA hcap hqu HPB
          by_cases hq : q = 0
          · subst hq
            go_wp2_with (refine wpList_store_row rfl 28 _ _ rfl wE.heap.size (List.map (Value.int IntKind.u8) dr).toArray rfl rfl 28 _ (alloc_new _ _ rfl) hdsr HODR.out honer ?_; rw [setRow_new _ _ _ _ rfl])
            generalize wE.alloc (Obj.cells (List.map (Value.int IntKind.u8) dr).toArray 28) = wA at *
            have HRK := hid_of HIA.out.reck
            refine HRK.out.mono ?_
            rintro e' wQ ⟨rfl, hkQ⟩
            have HIQ := hid_of (HIA.out.quiet hkQ)
            clear hkQ HRK
            go_wp2_with fail
            refine (used_any HIQ.out.st).mono ?_
            rintro e' wQ2 ⟨rfl, hwQ⟩
            subst hwQ
            go_wp2_with fail
            refine (cap_any HIQ.out.st).mono ?_
            rintro e' wQ3 ⟨rfl, hwQ⟩
            subst hwQ
            have hcpp := Int.not_lt.2 HIQ.out.cap
            go_wp2
            go_roundw
            case rel => exact ⟨j + 1, _, _, by omega, by omega, by go_num, HIQ.out.more (by omega)⟩
            case measure => simp [intOf]; omega
          · have hqb : (q == 0) = false := by simpa using hq
            have hqu := HQU.out hq
            go_wp2_with (refine wpList_store_row rfl 28 _ _ rfl wE.heap.size (List.map (Value.int IntKind.u8) dr).toArray rfl rfl 28 _ (alloc_new _ _ rfl) hdsr HODR.out honer ?_; rw [setRow_new _ _ _ _ rfl])
            generalize wE.alloc (Obj.cells (List.map (Value.int IntKind.u8) dr).toArray 28) = wA at *
            refine (used_any HIA.out.st).mono ?_
            rintro e' wU2 ⟨rfl, hwU⟩
            subst hwU
            rw [hqu]
            go_wp2_with fail
            have HRK := hid_of HIA.out.reck
            refine HRK.out.mono ?_
            rintro e' wQ ⟨rfl, hkQ⟩
            have HIQ := hid_of (HIA.out.quiet hkQ)
            clear hkQ HRK
            go_wp2_with fail
            refine (used_any HIQ.out.st).mono ?_
            rintro e' wQ2 ⟨rfl, hwQ⟩
            subst hwQ
            go_wp2_with fail
            refine (cap_any HIQ.out.st).mono ?_
            rintro e' wQ3 ⟨rfl, hwQ⟩
            subst hwQ
            have hcpp := Int.not_lt.2 HIQ.out.cap
            go_wp2
            go_roundw
            case rel => exact ⟨j + 1, _, _, by omega, by omega, by go_num, HIQ.out.more (by omega)⟩
            case measure => simp [intOf]; omega
        have hK5 : (t.kd == 5) = false := by simpa using hk5
        clear hk5
        have hK6 : (t.kd == 6) = false := by simpa using hk6
        clear hk6
        have hK1 : (t.kd == 1) = false := by simpa using hk1
        clear hk1
        go_wp2_with fail
        have HRK := hid_of HIB.out.reck
        refine HRK.out.mono ?_
        rintro e' wQ ⟨rfl, hkQ⟩
        have HIQ := hid_of (HIB.out.quiet hkQ)
        clear hkQ HRK
        go_wp2_with fail
        refine (used_any HIQ.out.st).mono ?_
        rintro e' wQ2 ⟨rfl, hwQ⟩
        subst hwQ
        go_wp2_with fail
        refine (cap_any HIQ.out.st).mono ?_
        rintro e' wQ3 ⟨rfl, hwQ⟩
        subst hwQ
        have hcpp := Int.not_lt.2 HIQ.out.cap
        go_wp2
        go_roundw
        case rel => exact ⟨j + 1, _, _, by omega, by omega, by go_num, HIQ.out.more (by omega)⟩
        case measure => simp [intOf]; omega
    · by_cases hjt : j < ts.length
      · have hj9 : j = 300 := by omega
        have hjI : (j : Int) < (ts.length : Int) := by omega
        have hj3I : ¬ (j : Int) < 300 := by omega
        clear hj9
        have HHD := hid_of (head_any wr (laid_kept HL.out HI.out.kp (fun f => f)))
        clear hI
        go_wp2_with fail
        refine HHD.out.mono ?_
        rintro e' wH ⟨rfl, hkH⟩
        have HKH := hid_of (HI.out.kp.trans hkH)
        clear hkH HHD
        go_wp2
        go_ret
        exact ⟨rfl, HKH.out⟩
      · have hjI : ¬ (j : Int) < (ts.length : Int) := by omega
        have HHD := hid_of (head_any wr (laid_kept HL.out HI.out.kp (fun f => f)))
        clear hI
        go_wp2_with fail
        refine HHD.out.mono ?_
        rintro e' wH ⟨rfl, hkH⟩
        have HKH := hid_of (HI.out.kp.trans hkH)
        clear hkH HHD
        go_wp2
        go_ret
        exact ⟨rfl, HKH.out⟩
end Go.Proofs.YtjdbmjkidljhpaaDoor

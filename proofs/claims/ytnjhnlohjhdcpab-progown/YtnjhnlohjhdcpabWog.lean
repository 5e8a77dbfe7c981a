/-
  ProgOwn: the walk where Encode tells no fault.
-/
import Derived.Test.YtnjhnlohjhdcpabPgs
import Derived.Test.YtnjhnlohjhdcpabWob
namespace Go.Proofs.Ytnjhnlohjhdcpab
open Go.ChangeShapes Go.WideShapes Go.ChangeAt Go.RowKit Go.Deep
set_option linter.unusedVariables false
set_option linter.unusedSimpArgs false
set_option maxRecDepth 100000

set_option maxHeartbeats 32000000 in
theorem own_good (u : Value) (p : PG) (w : World) (B : Nat) (ha : PgIs w B u p) (hB : B ≤ w.heap.size) (hoa : p.Ok) (hE : encPE p = 0) : Calls Try.prog 3 #[u] w fun e w' => e = .returned (.bool true) ∧ Kept (fun _ => False) w w' := by
  have hag := ha
  obtain ⟨dv, fv, rfl, hd, hdl, hf⟩ := ha
  obtain ⟨pda, pdc, rfl⟩ := hd.shape
  obtain ⟨pfa, pfc, rfl⟩ := hf.shape
  obtain ⟨pnd, hpnd⟩ : ∃ n, n = p.data.length := ⟨_, rfl⟩
  obtain ⟨pnf, hpnf⟩ : ∃ n, n = p.fns.length := ⟨_, rfl⟩
  obtain ⟨mp, hmp⟩ : ∃ m, m = p.mem := ⟨_, rfl⟩
  obtain ⟨bs, hbs⟩ : ∃ b, b = bytesP p := ⟨_, rfl⟩
  obtain ⟨nb, hnb⟩ : ∃ n, n = bs.length := ⟨_, rfl⟩
  rw [← hmp, ← hpnd, ← hpnf] at hag ⊢
  have hz := encPE_zero hE
  have HBK : Hid (BytesOk bs) := by unfold Hid; rw [hbs]; exact bytesP_ok hoa hz.1 (by omega)
  have HDC : Hid (decPD bs = .ok p) := by unfold Hid; rw [hbs]; exact right_decP hoa hE
  have HLG := hid_of (long_ok hz.1)
  have hnb1 : nb ≤ 1048576 := by rw [hnb, hbs]; exact hz.2
  have hnbI : (nb : Int) ≤ 1048576 := by omega
  have HNBS := hid_of hbs
  have HNB := hid_of hnb
  have HE := hid_of hE
  have hkA : Kept (fun _ => False) w (w.alloc (.cells #[.int .i64 mp, .slice pda pnd pdc, .slice pfa pnf pfc] 25)) := (Kept.refl _ _).alloc _
  have hbA := heap_alloc_new w (.cells #[.int .i64 mp, .slice pda pnd pdc, .slice pfa pnf pfc] 25)
  have HGA0 := hid_of (hag.kept hkA (fun _ _ f => f))
  have HBA0 := hid_of hbA
  have HK0 := hid_of hkA
  have HOA := hid_of hoa
  have HB0 := hid_of hB
  have HND := hid_of hpnd
  have HNF := hid_of hpnf
  have HMP := hid_of hmp
  clear hag hd hdl hf hkA hbA hB hpnd hpnf hmp hoa hbs hnb hz hE hnb1
  go_enter Try.func3, Try.ntmps3
  go_upto_region 1 with fail
  generalize w.alloc (.cells #[.int .i64 mp, .slice pda pnd pdc, .slice pfa pnf pfc] 25) = w0 at *
  obtain ⟨ga, hga⟩ : ∃ g, g = w.heap.size := ⟨_, rfl⟩
  rw [← hga] at HBA0 ⊢
  have HGAE := hid_of hga
  clear hga
  go_wp2_with fail
  refine (known_any w0).mono ?_
  rintro e w1 ⟨rfl, hk1⟩
  have HBA1 := hid_of (box_kept hk1 HBA0.out (fun f => f))
  have HGA1 := hid_of (HGA0.out.kept hk1 (fun _ _ f => f))
  have HK1 := hid_of (HK0.out.trans hk1)
  clear hk1 HBA0 HGA0 HK0
  have c0 := cell_block _ ga 0 _ _ _ HBA1.out
  have c1 := cell_block _ ga 1 _ _ _ HBA1.out
  have c2 := cell_block _ ga 2 _ _ _ HBA1.out
  have HEN := hid_of (enc_own HNBS.out HNB.out HE.out HGA1.out (Nat.le_trans HB0.out HK1.out.size) HOA.out)
  go_wp2_with fail
  refine HEN.out.mono ?_
  rintro e w2 ⟨bo, bc, rfl, hb2, hk2⟩
  have HBA := hid_of (box_kept hk2 HBA1.out (fun f => f))
  have HGA := hid_of (HGA1.out.kept hk2 (fun _ _ f => f))
  have HK := hid_of (HK1.out.trans hk2)
  have HB2 := hid_of (own_mono hb2 HK1.out.size)
  have hL := lend5_any (.slice bo nb bc) bs w2 (isB_own hb2) (by have := HBK.out.2; omega)
  rw [← HNB.out] at hL
  have HL := hid_of hL
  clear hL hk2 hb2 HEN HBA1 HGA1 HK1 c0 c1 c2
  go_wp2_with fail
  refine HL.out.mono ?_
  rintro e w3 ⟨rfl, hl3, hk3⟩
  obtain ⟨gm, hgm⟩ : ∃ g, g = w2.heap.size := ⟨_, rfl⟩
  obtain ⟨lo, hlo⟩ : ∃ g, g = w3.heap.size := ⟨_, rfl⟩
  rw [← hgm] at hl3 ⊢
  have HOW : Hid (OwK w w3 lo B ga #[.int .i64 mp, .slice pda pnd pdc, .slice pfa pnf pfc] p (.slice bo nb bc) nb bs gm) := by
    have h1 := (Array.getElem?_eq_some_iff.1 HBA.out).1
    have h2 := hk3.size
    have h3 := HK.out.size
    have h4 := HB0.out
    have h5 : gm < w3.heap.size := by
      have := (hl3.cells (k := 0) (by omega)).1
      obtain ⟨u, hu⟩ := this
      exact World.block_lt_of_cell? _ _ hu
    exact ⟨box_kept hk3 HBA.out (fun f => f), HGA.out.kept hk3 (fun _ _ f => f), hk3.ownsRow HB2.out (fun _ _ f => f), hl3, HK.out.trans hk3, ⟨by omega, by omega, by omega, by omega, by omega⟩, fun q hq => by have := (HB2.out.lt q hq).2; omega⟩
  clear HL hl3 hk3 hgm hlo HBA HGA HK HB2
  go_wp2_with fail
  go_loopw [9, 10] (fun av i wr => ∃ (k : Nat) (ps : List PR) (an : Nat) (ao : Option Addr) (ac : Nat), k ≤ 3 ∧ i = .int .i64 (k : Int) ∧ av = .slice ao an ac ∧ Hid (an = 3 * k ∧ ps.length = an ∧ (∀ x ∈ ps, x.p = p) ∧ ∀ q, PBlk ps q → lo ≤ q) ∧ Hid (OwK w wr lo B ga #[.int .i64 mp, .slice pda pnd pdc, .slice pfa pnf pfc] p (.slice bo nb bc) nb bs gm) ∧ Hid (Progs wr ps) ∧ Hid (wr.ownsRow lo 25 3 av an (ps.flatMap PR.cells))) (fun _ i _ => 3 - (intOf i).toNat)
  case atStart => exact ⟨0, [], 0, none, 0, by omega, rfl, rfl, ⟨rfl, rfl, fun x hx => by simp at hx, fun q hq => by obtain ⟨x, hx, _⟩ := hq; simp at hx⟩, HOW, Progs.nil _, World.ownsRow_nil _ _ _ _⟩
  case round =>
    clear HOW
    obtain ⟨k, ps, an, ao, ac, hk, rfl, rfl, HA, HO, HP, HR⟩ := hrel
    by_cases hlt : k < 3
    · have hltI : (k : Int) < 3 := by omega
      have HD := hid_of (dec_own HMP.out HND.out HNF.out HNB.out HO.out.lent (Nat.lt_of_lt_of_le HO.out.off.2.2.1 HO.out.off.2.2.2.2) HDC.out HBK.out)
      go_wp2_with fail
      refine HD.out.mono ?_
      rintro e w4 ⟨v4, rfl, ⟨xda, xdc, xfa, xfc, xcv, rfl, hox⟩, hk4⟩
      have hkx : Kept (fun _ => False) w4 (w4.alloc (.cells #[.int .i64 mp, .slice xda pnd xdc, .slice xfa pnf xfc] 25)) := (Kept.refl _ _).alloc _
      have HBX := hid_of (heap_alloc_new w4 (.cells #[.int .i64 mp, .slice xda pnd xdc, .slice xfa pnf xfc] 25))
      have HP5 := hid_of ((HP.out.push hk4 (PR.mk (.slice xda pnd xdc) (.slice xfa pnf xfc) xcv p) hox HOA.out).same hkx)
      have HO5 := hid_of (HO.out.same (hk4.trans hkx))
      have HR5 := hid_of ((hk4.trans hkx).ownsRow HR.out (fun _ _ f => f))
      have hpx := (hox.kept hkx (fun _ _ f => f)).pg
      rw [← HMP.out] at hpx
      have HPX := hid_of hpx
      have HXL : Hid (∀ q, PBlk [(PR.mk (.slice xda pnd xdc) (.slice xfa pnf xfc) xcv p)] q → lo ≤ q) := fun q hq => Nat.le_trans HO.out.off.2.2.2.2 (OwnP.blk (x := (PR.mk (.slice xda pnd xdc) (.slice xfa pnf xfc) xcv p)) hox hq).1
      have HNG0 : Hid (∀ q, (Value.slice ao an ac).ownBlock = some q → q < w4.heap.size) := fun q hq => Nat.lt_of_lt_of_le (HR.out.lt q hq).2 hk4.size
      clear hkx hox hk4 hpx HD HP HO HR
      go_upto_region 18 with fail
      generalize w4.alloc (.cells #[.int .i64 mp, .slice xda pnd xdc, .slice xfa pnf xfc] 25) = w5 at *
      generalize w4.heap.size = gx at *
      have HNG : Hid (¬ (Value.slice ao an ac).ownBlock = some gx) := fun e => absurd (HNG0.out gx e) (by omega)
      have HX0 := hid_of (show w5.cell? ⟨gx, 0, none⟩ = some (.int .i64 mp) from cell_block _ gx 0 _ _ _ HBX.out)
      have HX1 := hid_of (show w5.cell? ⟨gx, 1, none⟩ = some (.slice xda pnd xdc) from cell_block _ gx 1 _ _ _ HBX.out)
      have HX2 := hid_of (show w5.cell? ⟨gx, 2, none⟩ = some (.slice xfa pnf xfc) from cell_block _ gx 2 _ _ _ HBX.out)
      have HTW : Hid (∀ W, Kept (fun _ => False) w5 W → Calls Try.prog 7 #[.agg #[.int .i64 mp, .slice xda pnd xdc, .slice xfa pnf xfc]] W fun e W' => ∃ u, e = .returned u ∧ NewP p mp pnd pnf W u W' ∧ Kept (fun _ => False) W W') := fun W hW => twin_own HMP.out HND.out HNF.out ((HPX.out.kept hW (fun _ _ f => f)).up hW.size) (Nat.le_refl _) HOA.out
      clear HNG0 HPX HBX
      go_upto_region 20 with fail
      refine wp_region_held_drew (S := fun w' => Kept (fun q => (Value.slice ao an ac).ownBlock = some q) w5 w') (by kernel_rfl) ((Kept.refl _ _).drew) (fun hHeld => ?_)
      refine wpAnyH_take (i := 0) (v := ?_) rfl (by kernel_rfl) (by kernel_rfl) (by kernel_rfl) (fun _ _ _ h => h) (Or.inl ⟨by rfl, ?_⟩) (by assumption) ?_
      rotate_left 1
      · intro w hSw
        go_simp
        try with_reducible rfl
      try simp only [Act.put, List.getElem_toArray, List.getElem_cons_zero, List.getElem_cons_succ, List.setIfInBounds_toArray, List.set_cons_zero, List.set_cons_succ]
      refine wpAnyH_take (i := 1) (v := ?_) rfl (by kernel_rfl) (by kernel_rfl) (by kernel_rfl) (fun _ _ _ h => h) (Or.inl ⟨by rfl, ?_⟩) (by assumption) ?_
      rotate_left 1
      · intro w hSw
        have q0 := Kept.cell hSw HX0.out HNG.out
        have q1 := Kept.cell hSw HX1.out HNG.out
        have q2 := Kept.cell hSw HX2.out HNG.out
        go_simp
        try with_reducible rfl
      try simp only [Act.put, List.getElem_toArray, List.getElem_cons_zero, List.getElem_cons_succ, List.setIfInBounds_toArray, List.set_cons_zero, List.set_cons_succ]
      refine wpAnyH_take (i := 2) (v := ?_) rfl (by kernel_rfl) (by kernel_rfl) (by kernel_rfl) (fun _ _ _ h => h) (Or.inl ⟨by rfl, ?_⟩) (by assumption) ?_
      rotate_left 1
      · intro w hSw
        have q0 := Kept.cell hSw HX0.out HNG.out
        have q1 := Kept.cell hSw HX1.out HNG.out
        have q2 := Kept.cell hSw HX2.out HNG.out
        go_simp
        try with_reducible rfl
      try simp only [Act.put, List.getElem_toArray, List.getElem_cons_zero, List.getElem_cons_succ, List.setIfInBounds_toArray, List.set_cons_zero, List.set_cons_succ]
      refine wpAnyH_take (i := 4) (v := ?_) rfl (by kernel_rfl) (by kernel_rfl) (by kernel_rfl) (fun _ _ _ h => h) (Or.inl ⟨by rfl, ?_⟩) (by assumption) ?_
      rotate_left 1
      · intro w hSw
        have q0 := Kept.cell hSw HX0.out HNG.out
        have q1 := Kept.cell hSw HX1.out HNG.out
        have q2 := Kept.cell hSw HX2.out HNG.out
        go_simp
        try with_reducible rfl
      try simp only [Act.put, List.getElem_toArray, List.getElem_cons_zero, List.getElem_cons_succ, List.setIfInBounds_toArray, List.set_cons_zero, List.set_cons_succ]
      refine wpAnyH_ready (rs := [3]) (by kernel_rfl) (by simp) ?_
      refine AllReadyH.cons rfl (fun K hK => ?_) AllReadyH.nil
      go_simp
      refine (HTW.out _ ((Kept.refl (fun _ => False) w5).drew)).mono ?_
      rintro e w6 ⟨uy, rfl, ⟨yda, ydc, yfa, yfc, ycv, rfl, hoy⟩, hk6⟩
      have HKw6 : Hid (Kept (fun _ => False) w5 w6) := ((Kept.refl (fun _ => False) w5).drew).trans hk6
      have HP6 := hid_of ((HP5.out.same ((Kept.refl (fun _ => False) w5).drew)).push hk6 (PR.mk (.slice yda pnd ydc) (.slice yfa pnf yfc) ycv p) hoy HOA.out)
      have HYL : Hid (∀ q, PBlk [(PR.mk (.slice yda pnd ydc) (.slice yfa pnf yfc) ycv p)] q → lo ≤ q) := fun q hq => Nat.le_trans (Nat.le_trans HO5.out.off.2.2.2.2 ((Kept.refl (fun _ => False) w5).drew).size) (OwnP.blk (x := (PR.mk (.slice yda pnd ydc) (.slice yfa pnf yfc) ycv p)) hoy hq).1
      refine hK.out _ _ (HKw6.out.mono (fun _ _ f => f.elim)) (fun hHeld => ?_)
      clear hK K hk6 hoy
      try simp only [Act.put, List.getElem_toArray, List.getElem_cons_zero, List.getElem_cons_succ, List.setIfInBounds_toArray, List.set_cons_zero, List.set_cons_succ]
      refine wpAnyH_ready (rs := [5]) (by kernel_rfl) (by simp) ?_
      refine AllReadyH.cons rfl (fun K hK => ?_) AllReadyH.nil
      go_simp
      refine (HTW.out _ HKw6.out).mono ?_
      rintro e w7 ⟨uz, rfl, ⟨zda, zdc, zfa, zfc, zcv, rfl, hoy⟩, hk6⟩
      have HKw7 : Hid (Kept (fun _ => False) w5 w7) := HKw6.out.trans hk6
      have HP7 := hid_of (HP6.out.push hk6 (PR.mk (.slice zda pnd zdc) (.slice zfa pnf zfc) zcv p) hoy HOA.out)
      have HZL : Hid (∀ q, PBlk [(PR.mk (.slice zda pnd zdc) (.slice zfa pnf zfc) zcv p)] q → lo ≤ q) := fun q hq => Nat.le_trans (Nat.le_trans HO5.out.off.2.2.2.2 HKw6.out.size) (OwnP.blk (x := (PR.mk (.slice zda pnd zdc) (.slice zfa pnf zfc) zcv p)) hoy hq).1
      refine hK.out _ _ (HKw7.out.mono (fun _ _ f => f.elim)) (fun hHeld => ?_)
      clear hK K hk6 hoy
      try simp only [Act.put, List.getElem_toArray, List.getElem_cons_zero, List.getElem_cons_succ, List.setIfInBounds_toArray, List.set_cons_zero, List.set_cons_succ]
      refine wpAnyH_ready (rs := [6]) (by kernel_rfl) (by simp) ?_
      refine AllReadyH.cons rfl (fun K hK => ?_) AllReadyH.nil
      refine stp_build25 rfl _ _ _ rfl _ _ _ _ _ _ _ _ _ rfl rfl rfl ?_
      refine hK.out _ _ ((HKw7.out.mono (fun _ _ f => f.elim)).alloc _) (fun hHeld => ?_)
      clear hK K
      try simp only [Act.put, List.getElem_toArray, List.getElem_cons_zero, List.getElem_cons_succ, List.setIfInBounds_toArray, List.set_cons_zero, List.set_cons_succ]
      have HR7 := hid_of (HKw7.out.ownsRow HR5.out (fun _ _ f => f))
      obtain ⟨av', w8, hr8, ho8, hk8⟩ := app_progs HR7.out (Nat.le_trans HO5.out.off.2.2.2.2 HKw7.out.size) [.int .i64 mp, .slice xda pnd xdc, .slice xfa pnf xfc, .int .i64 mp, .slice yda pnd ydc, .slice yfa pnf yfc, .int .i64 mp, .slice zda pnd zdc, .slice zfa pnf zfc] rfl (fun u hu => by simp at hu; rcases hu with rfl | rfl | rfl | rfl | rfl | rfl | rfl | rfl | rfl <;> rfl) (by have := HA.out.1; omega)
      have HR8 := hid_of hr8
      have HK8 := hid_of hk8
      have HP8 := hid_of (HP7.out.row HR7.out hk8)
      have HO8 := hid_of ((HO5.out.same HKw7.out).step hk8 (fun q hq e => absurd (HR7.out.lt q e).1 (by omega)))
      obtain ⟨an', han'⟩ : ∃ n, n = an + 3 := ⟨_, rfl⟩
      rw [← han'] at ho8
      obtain ⟨ao', ac', hav⟩ := ownsRow_shape ho8
      subst hav
      have HO9 := hid_of ho8
      have HAN := hid_of han'
      clear hr8 hk8 ho8 han'
      refine wpAnyH_ready (rs := [7]) (by kernel_rfl) (by simp) ?_
      refine AllReadyH.cons rfl (fun K hK => ?_) AllReadyH.nil
      refine stp_app rfl _ _ 34 34 rfl _ _ rfl rfl _ w8 HR8.out ?_
      refine hK.out _ _ ((HKw7.out.mono (fun _ _ f => f.elim)).trans HK8.out) (fun hHeld => ?_)
      clear hK K
      try simp only [Act.put, List.getElem_toArray, List.getElem_cons_zero, List.getElem_cons_succ, List.setIfInBounds_toArray, List.set_cons_zero, List.set_cons_succ]
      refine wpAnyH_take (i := 8) (v := ?_) rfl (by kernel_rfl) (by kernel_rfl) (by kernel_rfl) (fun _ _ _ h => h) (Or.inl ⟨by rfl, ?_⟩) (by assumption) ?_
      rotate_left 1
      · intro w hSw
        go_simp
        try with_reducible rfl
      try simp only [Act.put, List.getElem_toArray, List.getElem_cons_zero, List.getElem_cons_succ, List.setIfInBounds_toArray, List.set_cons_zero, List.set_cons_succ]
      refine wpAnyH_done (by kernel_rfl) ?_ _
      clear hHeld HX0 HX1 HX2 HNG HTW HKw6 HKw7 HP5 HP6 HP7 HR8 HK8 HR7 HR5 HO5
      have HA9 : Hid (an' = 3 * (k + 1) ∧ (ps ++ [(PR.mk (.slice xda pnd xdc) (.slice xfa pnf xfc) xcv p)] ++ [(PR.mk (.slice yda pnd ydc) (.slice yfa pnf yfc) ycv p)] ++ [(PR.mk (.slice zda pnd zdc) (.slice zfa pnf zfc) zcv p)]).length = an' ∧ (∀ x ∈ ps ++ [(PR.mk (.slice xda pnd xdc) (.slice xfa pnf xfc) xcv p)] ++ [(PR.mk (.slice yda pnd ydc) (.slice yfa pnf yfc) ycv p)] ++ [(PR.mk (.slice zda pnd zdc) (.slice zfa pnf zfc) zcv p)], x.p = p) ∧ ∀ q, PBlk (ps ++ [(PR.mk (.slice xda pnd xdc) (.slice xfa pnf xfc) xcv p)] ++ [(PR.mk (.slice yda pnd ydc) (.slice yfa pnf yfc) ycv p)] ++ [(PR.mk (.slice zda pnd zdc) (.slice zfa pnf zfc) zcv p)]) q → lo ≤ q) := by
        obtain ⟨h1, h2, h3, h4⟩ := HA.out
        have h5 := HAN.out
        refine ⟨by omega, by simp; omega, fun x hx => ?_, fun q hq => ?_⟩
        · simp only [List.mem_append, List.mem_singleton] at hx
          rcases hx with ((hx | rfl) | rfl) | rfl
          · exact h3 x hx
          · rfl
          · rfl
          · rfl
        · rcases hq.split with hq | hq
          · rcases hq.split with hq | hq
            · rcases hq.split with hq | hq
              · exact h4 q hq
              · exact HXL.out q hq
            · exact HYL.out q hq
          · exact HZL.out q hq
      have HR9 : Hid (w8.ownsRow lo 25 3 (.slice ao' an' ac') an' ((ps ++ [(PR.mk (.slice xda pnd xdc) (.slice xfa pnf xfc) xcv p)] ++ [(PR.mk (.slice yda pnd ydc) (.slice yfa pnf yfc) ycv p)] ++ [(PR.mk (.slice zda pnd zdc) (.slice zfa pnf zfc) zcv p)]).flatMap PR.cells)) := by
        unfold Hid
        have h1 := HO9.out
        simp only [List.flatMap_append, List.flatMap_cons, List.flatMap_nil, PR.cells, List.append_assoc, List.append_nil, List.cons_append, List.nil_append, ← HMP.out]
        exact h1
      clear HA HAN HO9 HXL HYL HZL
      go_wp2
      go_roundw
      case rel => exact ⟨k + 1, _, an', ao', ac', by omega, by go_num, rfl, HA9, HO8, HP8, HR9⟩
      case measure => simp [intOf]; omega
    · have hltI : ¬ ((k : Int) < 3) := by omega
      have HAN : Hid (an = 9) := by have := HA.out.1; unfold Hid; omega
      have hanI : (0 : Int) < (an : Int) := by have := HAN.out; omega
      obtain ⟨gl, hgl⟩ : ∃ g, ao = some ⟨g, 0, none⟩ := by
        obtain ⟨g, c, e⟩ := own_at0 HR.out (by have := HAN.out; omega)
        simp only [Value.slice.injEq] at e
        exact ⟨g, e.1⟩
      subst hgl
      obtain ⟨x, hx⟩ : ∃ x, ps[0]? = some x := ⟨_, List.getElem?_eq_getElem (by have := HA.out.2.1; have := HAN.out; omega)⟩
      have hxp := HA.out.2.2.1 x (List.mem_of_getElem? hx)
      have hox := HP.out.own 0 x hx
      obtain ⟨xda, xdc, hxd⟩ := ownsRow_shape hox.dat
      obtain ⟨xfa, xfc, hxf⟩ := ownsRow_shape hox.fns.row
      have hpx := hox.pg
      rw [hxp, ← HND.out] at hxd
      rw [hxp, ← HNF.out] at hxf
      rw [hxp, hxd, hxf, ← HMP.out] at hpx
      have HPX := hid_of hpx
      have c0 : wr.cell? ⟨gl, 0, none⟩ = some (.int .i64 mp) := by
        have h9 := prcells_at ps 0 x hx 0 (by omega)
        rw [Nat.zero_mul, Nat.zero_add] at h9
        rw [HR.out.cellAt 0 (by have := HAN.out; omega), h9, HMP.out, ← hxp]
        rfl
      have c1 : wr.cell? ⟨gl, 1, none⟩ = some (.slice xda pnd xdc) := by
        have h9 := prcells_at ps 0 x hx 1 (by omega)
        rw [Nat.zero_mul, Nat.zero_add] at h9
        rw [HR.out.cellAt 1 (by have := HAN.out; omega), h9, ← hxd]
        rfl
      have c2 : wr.cell? ⟨gl, 2, none⟩ = some (.slice xfa pnf xfc) := by
        have h9 := prcells_at ps 0 x hx 2 (by omega)
        rw [Nat.zero_mul, Nat.zero_add] at h9
        rw [HR.out.cellAt 2 (by have := HAN.out; omega), h9, ← hxf]
        rfl
      have HEC : Hid (∀ W, Kept (fun _ => False) wr W → Calls Try.prog 6 #[.agg #[.int .i64 mp, .slice xda pnd xdc, .slice xfa pnf xfc]] W fun e W' => ∃ ao c, e = .returned (.tuple #[.slice ao nb c, .int .i64 0]) ∧ W'.ownsRow W.heap.size 5 1 (.slice ao nb c) nb (bs.map (Value.int .u8)) ∧ Kept (fun _ => False) W W') := fun W hW => enc_own HNBS.out HNB.out HE.out ((HPX.out.kept hW (fun _ _ f => f)).up hW.size) (Nat.le_refl _) HOA.out
      clear hx hxp hox hxd hxf hpx HPX x hk
      go_wp2_with fail
      refine (HEC.out _ (Kept.refl _ _)).mono ?_
      rintro e w10 ⟨co, cc, rfl, hc10, hk10⟩
      have d0 := hk10.cell c0 (fun f => f)
      have d1 := hk10.cell c1 (fun f => f)
      have d2 := hk10.cell c2 (fun f => f)
      have HC10 := hid_of hc10
      have HK10 := hid_of hk10
      clear c0 c1 c2 hc10 hk10
      go_wp2_with fail
      refine (HEC.out _ HK10.out).mono ?_
      rintro e w11 ⟨eo, ec, rfl, he11, hk11⟩
      have HE11 := hid_of he11
      have HK11 := hid_of (HK10.out.trans hk11)
      have HC11 := hid_of (hk11.ownsRow HC10.out (fun _ _ f => f))
      have HSZ0 : Hid (wr.heap.size ≤ w10.heap.size ∧ w10.heap.size ≤ w11.heap.size) := ⟨HK10.out.size, hk11.size⟩
      have HCL0 : Hid (∀ q, (Value.slice co nb cc).ownBlock = some q → wr.heap.size ≤ q ∧ q < w10.heap.size) := fun q hq => HC10.out.lt q hq
      have HD := hid_of (dec_own HMP.out HND.out HNF.out HNB.out (HO.out.same HK11.out).lent (Nat.lt_of_lt_of_le HO.out.off.2.2.1 (HO.out.same HK11.out).off.2.2.2.2) HDC.out HBK.out)
      clear d0 d1 d2 he11 hk11 HEC HC10 HK10
      go_wp2_with fail
      refine HD.out.mono ?_
      rintro e w12 ⟨v12, rfl, ⟨lda, ldc, lfa, lfc, lcv, rfl, hol⟩, hk12⟩
      have hkb : Kept (fun _ => False) w12 (w12.alloc (.cells #[.int .i64 mp, .slice lda pnd ldc, .slice lfa pnf lfc] 25)) := (Kept.refl _ _).alloc _
      have HBL := hid_of (heap_alloc_new w12 (.cells #[.int .i64 mp, .slice lda pnd ldc, .slice lfa pnf lfc] 25))
      have hk13 := HK11.out.trans (hk12.trans hkb)
      have HP13 := hid_of (HP.out.same hk13)
      have HO13 := hid_of (HO.out.same hk13)
      have HR13 := hid_of (hk13.ownsRow HR.out (fun _ _ f => f))
      have HC13 := hid_of ((hk12.trans hkb).ownsRow HC11.out (fun _ _ f => f))
      have HE13 := hid_of ((hk12.trans hkb).ownsRow HE11.out (fun _ _ f => f))
      have HOL := hid_of (hol.kept hkb (fun _ _ f => f))
      have HPB : Hid (∀ q, PBlk ps q → lo ≤ q ∧ q < wr.heap.size) := fun q hq => ⟨HA.out.2.2.2 q hq, HP.out.lt hq⟩
      have HSZ : Hid (lo ≤ wr.heap.size ∧ wr.heap.size ≤ w10.heap.size ∧ w10.heap.size ≤ w11.heap.size ∧ w11.heap.size ≤ w12.heap.size) := ⟨HO.out.off.2.2.2.2, HSZ0.out.1, HSZ0.out.2, hk12.size⟩
      clear hkb hk13 hk12 hol HD HP HO HR HC11 HE11 HSZ0 HK11
      go_upto_region 24 with fail
      generalize w12.alloc (.cells #[.int .i64 mp, .slice lda pnd ldc, .slice lfa pnf lfc] 25) = w13 at *
      generalize w12.heap.size = gq at *
      generalize wr.heap.size = nr at *
      generalize w10.heap.size = n10 at *
      generalize w11.heap.size = n11 at *
      have s1 := conv_str w13 (.slice co nb cc) bs (isB_own HC13.out)
      have s2 := conv_str w13 (.slice bo nb bc) bs (isB_own HO13.out.bro)
      obtain ⟨sa, hsa⟩ : ∃ s, s = str bs := ⟨_, rfl⟩
      rw [← hsa] at s1 s2
      have HSA := hid_of hsa
      have HAL : Hid (AllG w13 (.slice (some ⟨gl, 0, none⟩) an ac) ps) := by
        have h9 := HR13.out
        have h8 := HA.out.2.1
        refine HP13.out.all (b := lo) ?_
        rw [h8]
        exact h9
      have HG := hid_of (grown_some gl ac an ps w13 HAL.out HA.out.2.1.symm (by have := HAN.out; omega) (by have := HAN.out; omega) (fun x hx => by rw [HA.out.2.2.1 x hx]; exact HLG.out))
      clear hsa HP13 HR13 HAL
      go_wp2_with fail
      refine HG.out.mono ?_
      rintro e w14 ⟨rfl, hk14⟩
      have HO14 := hid_of (HO13.out.step hk14 (fun q hq e => by have := (HPB.out q e).1; omega))
      have HC14 := hid_of (hk14.ownsRow HC13.out (fun q hq e => by have := (HPB.out q e).2; have := (HC13.out.lt q hq).1; omega))
      have HE14 := hid_of (hk14.ownsRow HE13.out (fun q hq e => by have := (HPB.out q e).2; have := (HE13.out.lt q hq).1; have := HSZ.out; omega))
      have HOL14 := hid_of (HOL.out.kept hk14 (fun q hq e => by have := (HPB.out q e).2; have := HSZ.out; omega))
      have HBL14 := hid_of (box_kept hk14 HBL.out (fun e => by have := (HPB.out _ e).2; have := HSZ.out; omega))
      have hKP := held5_any gm (.slice bo nb bc) bs w14 HO14.out.lent (isB_own HO14.out.bro) (by have := HBK.out.2; omega)
      rw [← HNB.out] at hKP
      have HKP := hid_of hKP
      clear hKP hk14 HG s1 s2 HO13 HC13 HE13 HOL HBL
      go_wp2_with fail
      refine HKP.out.mono ?_
      rintro e w15 ⟨rfl, hw15⟩
      have hw15' := hw15.symm
      subst hw15'
      have hpl := HOL14.out.pg
      rw [← HMP.out] at hpl
      have hSM := rsame_any _ _ p p w14 _ hpl (HO14.out.pg.up (Nat.le_trans HO14.out.off.2.1 HO14.out.off.2.2.2.2)) (Nat.le_refl _) HOA.out HOA.out
      rw [sameP_refl] at hSM
      have HSM := hid_of hSM
      have p0 := cell_block _ gq 0 _ _ _ HBL14.out
      have p1 := cell_block _ gq 1 _ _ _ HBL14.out
      have p2 := cell_block _ gq 2 _ _ _ HBL14.out
      have r0 := cell_block _ ga 0 _ _ _ HO14.out.ba
      have r1 := cell_block _ ga 1 _ _ _ HO14.out.ba
      have r2 := cell_block _ ga 2 _ _ _ HO14.out.ba
      clear hSM hpl HKP hw15
      go_wp2_with fail
      refine HSM.out.mono ?_
      rintro e w16 ⟨rfl, hk16⟩
      have HO16 := hid_of (HO14.out.same hk16)
      have HC16 := hid_of (hk16.ownsRow HC14.out (fun _ _ f => f))
      have HE16 := hid_of (hk16.ownsRow HE14.out (fun _ _ f => f))
      clear HSM hk16 HO14 HC14 HE14 HOL14 HBL14 p0 p1 p2 r0 r1 r2 HPB HA
      go_wp2_with fail
      go_loopw [19] (fun j wr => ∃ (m : Nat) (cs : List Int), m ≤ nb ∧ j = .int .i64 (m : Int) ∧ Hid (wr.ownsRow nr 5 1 (.slice co nb cc) nb (cs.map (Value.int .u8))) ∧ Hid (Kept (fun q => (Value.slice co nb cc).ownBlock = some q) w16 wr)) (fun j _ => nb - (intOf j).toNat)
      case atStart => exact ⟨0, bs, Nat.zero_le _, rfl, HC16, Kept.refl _ _⟩
      case round =>
        obtain ⟨m, cs, hm, rfl, HCR, HKR⟩ := hrel
        by_cases hml : m < nb
        · have hmlI : (m : Int) < (nb : Int) := by omega
          obtain ⟨g1, hg1⟩ : ∃ g, co = some ⟨g, 0, none⟩ := by
            obtain ⟨g, c, e⟩ := own_at0 HCR.out (by omega)
            simp only [Value.slice.injEq] at e
            exact ⟨g, e.1⟩
          subst hg1
          obtain ⟨x1, hx1⟩ : ∃ x, cs[m]? = some x := ⟨_, List.getElem?_eq_getElem (by have := HCR.out.1; simp at this; omega)⟩
          have t0 : wr.cell? ⟨g1, m, none⟩ = some (.int .u8 x1) := by
            rw [HCR.out.cellAt _ (by omega), List.getElem?_map, hx1]
            rfl
          have tf : wr.frozen? ⟨g1, m, none⟩ = false := World.ownsRow.frozenAt HCR.out _
          have hst := (World.ownsRow.stored HCR.out m (.int .u8 (bits .xor .u8 x1 85))).1
          rw [← List.map_set] at hst
          have HS := hid_of hst
          have HKS := hid_of (HKR.out.trans ((kept_set wr g1 m (.int .u8 (bits .xor .u8 x1 85))).mono (fun q _ e => by rw [e]; rfl)))
          clear hst hx1 HCR HKR
          go_wp2
          go_roundw
          case rel => exact ⟨m + 1, _, by omega, by go_num, HS, HKS⟩
          case measure => simp [intOf]; omega
        · have hmlI : ¬ ((m : Int) < (nb : Int)) := by omega
          have HO17 := hid_of (HO16.out.step HKR.out (fun q hq e => by have := (HCL0.out q e).1; have := HSZ.out.1; omega))
          have HE17 := hid_of (HKR.out.ownsRow HE16.out (fun q hq e => by have := (HCL0.out q e).2; have := (HE16.out.lt q hq).1; omega))
          have HD := hid_of (dec_own HMP.out HND.out HNF.out HNB.out HO17.out.lent (Nat.lt_of_lt_of_le HO17.out.off.2.2.1 HO17.out.off.2.2.2.2) HDC.out HBK.out)
          clear HCR HKR HO16 HC16 HE16 hm
          go_wp2_with fail
          refine HD.out.mono ?_
          rintro e w18 ⟨v18, rfl, ⟨nda, ndc, nfa, nfc, ncv, rfl, hon⟩, hk18⟩
          have hkb : Kept (fun _ => False) w18 (w18.alloc (.cells #[.int .i64 mp, .slice nda pnd ndc, .slice nfa pnf nfc] 25)) := (Kept.refl _ _).alloc _
          have HBN := hid_of (heap_alloc_new w18 (.cells #[.int .i64 mp, .slice nda pnd ndc, .slice nfa pnf nfc] 25))
          have HO19 := hid_of (HO17.out.same (hk18.trans hkb))
          have HE19 := hid_of ((hk18.trans hkb).ownsRow HE17.out (fun _ _ f => f))
          have hpn := (hon.kept hkb (fun _ _ f => f)).pg
          rw [← HMP.out] at hpn
          have HPN := hid_of hpn
          clear hkb hk18 hon hpn HD HO17 HE17 hmlI hml
          go_upto_region 31 with fail
          generalize w18.alloc (.cells #[.int .i64 mp, .slice nda pnd ndc, .slice nfa pnf nfc] 25) = w19 at *
          generalize w18.heap.size = gn at *
          have s1 := conv_str w19 (.slice eo nb ec) bs (isB_own HE19.out)
          have s2 := conv_str w19 (.slice bo nb bc) bs (isB_own HO19.out.bro)
          rw [← HSA.out] at s1 s2
          have hSM := rsame_any _ _ p p w19 _ HPN.out (HO19.out.pg.up (Nat.le_trans HO19.out.off.2.1 HO19.out.off.2.2.2.2)) (Nat.le_refl _) HOA.out HOA.out
          rw [sameP_refl] at hSM
          have HSM := hid_of hSM
          have p0 := cell_block _ gn 0 _ _ _ HBN.out
          have p1 := cell_block _ gn 1 _ _ _ HBN.out
          have p2 := cell_block _ gn 2 _ _ _ HBN.out
          have r0 := cell_block _ ga 0 _ _ _ HO19.out.ba
          have r1 := cell_block _ ga 1 _ _ _ HO19.out.ba
          have r2 := cell_block _ ga 2 _ _ _ HO19.out.ba
          clear hSM
          go_wp2_with fail
          refine HSM.out.mono ?_
          rintro e w20 ⟨rfl, hk20⟩
          have HK20 := hid_of (HO19.out.kept.trans hk20)
          clear HSM hk20 s1 s2 HO19 HE19 HPN HBN p0 p1 p2 r0 r1 r2
          go_wp2
          go_ret
          exact ⟨rfl, HK20.out⟩
theorem own_walk (u : Value) (p : PG) (w : World) (B : Nat) (ha : PgIs w B u p) (hB : B ≤ w.heap.size) (hoa : p.Ok) : Calls Try.prog 3 #[u] w fun e w' => e = .returned (.bool true) ∧ Kept (fun _ => False) w w' := by
  by_cases hE : encPE p = 0
  · exact own_good u p w B ha hB hoa hE
  · exact own_bad u p w B ha hB hoa hE
end Go.Proofs.Ytnjhnlohjhdcpab

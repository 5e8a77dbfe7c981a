/-
  OpOwn: the walk.
-/
import Derived.Test.YtindhkjcifghhabGro
import Derived.Test.YtindhkjcifghhabLnd
namespace Go.Proofs.Ytindhkjcifghhab
open Go.RowKit Go.Deep
set_option linter.unusedVariables false
set_option linter.unusedSimpArgs false
set_option maxRecDepth 100000

theorem kept_new {w w' : World} {o : Obj} {v : Value} (hk : Kept (fun k => v.ownBlock = some k) (w.alloc o) w') (hv : ∀ k, v.ownBlock = some k → w.heap.size ≤ k) : Kept (fun _ => False) w w' :=
  ((Kept.refl _ w).alloc o).step hk (fun i hi e => absurd (hv i e) (by omega))

set_option maxHeartbeats 32000000 in
theorem own_walk (lo mo : Option Addr) (lc mc : Nat) (ys zs : List IN) (w : World) (hl : RowI w (.slice lo ys.length lc) ys) (hm : RowI w (.slice mo zs.length mc) zs) (hyo : ∀ y ∈ ys, y.Ok) (hzo : ∀ z ∈ zs, z.Ok) (hlo : lo = none → ys.length = 0) (hyl : ys.length * 16 ≤ 140737488351232) (hzl : zs.length * 16 ≤ 140737488351232) :
    Calls Try.prog 3 #[.slice lo ys.length lc, .slice mo zs.length mc] w fun e w' => e = .returned (.bool true) ∧ Kept (fun _ => False) w w' := by
  obtain ⟨i26, hi26, z260, z261, z262⟩ := info_parts Try.info26
  obtain ⟨i22, hi22, z220, z221, z222⟩ := info_parts Try.info22
  obtain ⟨nl, hnl⟩ : ∃ n, n = ys.length := ⟨_, rfl⟩
  obtain ⟨nm, hnm⟩ : ∃ n, n = zs.length := ⟨_, rfl⟩
  have HNL := hid_of hnl
  have HNM := hid_of hnm
  rw [← hnl] at hl hlo
  rw [← hnm] at hm
  have HL := hid_of hl
  have HM := hid_of hm
  have HYO := hid_of hyo
  have HZO := hid_of hzo
  have HLO := hid_of hlo
  have HYL := hid_of hyl
  have HZL := hid_of hzl
  clear hl hm hyo hzo hlo hyl hzl
  rw [← hnl, ← hnm]
  clear hnl hnm
  go_enter Try.func3, Try.ntmps3
  go_wp2_with fail
  refine (known_pos w).mono ?_
  rintro e w1 ⟨rfl, hk1, hp1⟩
  have HK1 := hid_of hk1
  have HP1 : Hid (0 < w1.heap.size) := by unfold Hid; omega
  clear hk1 hp1
  go_wp2_with fail
  go_loopw [5, 6, 7] (fun bv rv t wr => ∃ (k : Nat) (bs rs : List RL), k ≤ 2 ∧ t = .int .i64 k ∧ Hid (bs.length ≤ 4 * k) ∧ Hid (rs.length ≤ 4 * k) ∧ OwnI w1 wr bv rv bs rs) (fun _ _ t _ => 2 - (intOf t).toNat)
  case atStart => exact ⟨0, [], [], by omega, rfl, Nat.le_refl _, Nat.le_refl _, OwnI.start w1⟩
  case round =>
    obtain ⟨k, bs, rs, hk, rfl, HBS, HRS, hi⟩ := hrel
    have HI := hid_of hi
    clear hi
    by_cases hlt : k < 2
    · have hltI : (k : Int) < 2 := by omega
      go_wp2_with fail
      go_loopw [5, 6, 8] (fun bv rv t wr => ∃ (k2 : Nat) (bs rs : List RL), k2 ≤ 2 ∧ t = .int .i64 k2 ∧ Hid (bs.length ≤ 4 * k + 2 * k2) ∧ Hid (rs.length ≤ 4 * k + 2 * k2) ∧ OwnI w1 wr bv rv bs rs) (fun _ _ t _ => 2 - (intOf t).toNat)
      case atStart => exact ⟨0, bs, rs, by omega, rfl, HBS.out, HRS.out, HI.out⟩
      case round =>
        clear HBS HRS HI
        obtain ⟨k2, bs, rs, hk2, rfl, HBS, HRS, hi⟩ := hrel
        have HI := hid_of hi
        clear hi
        by_cases hlt2 : k2 < 2
        · have hltI2 : (k2 : Int) < 2 := by omega
          by_cases h1 : k2 = 1
          · obtain ⟨us, HX, HXO, HXL, HXN⟩ : ∃ us, Hid (RowI w (.slice mo nm mc) us) ∧ Hid (∀ y ∈ us, y.Ok) ∧ Hid (us.length * 16 ≤ 140737488351232) ∧ Hid (nm = us.length) := ⟨zs, HM, HZO, HZL, HNM⟩
            subst h1
            have hE1 := encode_ref (.slice mo nm mc) us wr (HX.out.kept (HK1.out.trans HI.out.kept) (fun _ _ f => f)) HXO.out (by have := HXL.out; omega)
            have HE1 := hid_of hE1
            clear hE1
            go_wp2_with fail
            refine HE1.out.mono ?_
            rintro e w2 ⟨hk2', he2⟩
            have HI2 := hid_of (HI.out.same hk2')
            have HS2 := hid_of hk2'.size
            clear hk2' HE1
            by_cases hE : encE us = 0
            · rw [if_pos hE] at he2
              obtain ⟨wv, rfl, hw2⟩ := he2
              obtain ⟨wo, wc, hwv⟩ := ownsRow_shape hw2
              obtain ⟨wl, hwl⟩ : ∃ n, n = (encB us).length := ⟨_, rfl⟩
              have hRB := right_bytes HXO.out hE
              have hWS : wl ≤ 40960 := by rw [hwl]; exact hRB.2
              have HRB := hid_of hRB.1
              have hUL := (encE_zero hE).1
              have HUL := hid_of hUL
              rw [← hwl] at hwv hw2
              subst hwv
              have HWL := hid_of hwl
              have HW2 := hid_of hw2
              have HE := hid_of hE
              have hE2 := encode_any (.slice mo nm mc) us w2 (HX.out.kept (HK1.out.trans HI2.out.kept) (fun _ _ f => f)) HXO.out (by have := HXL.out; omega)
              have HE2 := hid_of hE2
              clear hE2 hw2 hwl hRB hE hUL
              go_wp2_with fail
              refine HE2.out.mono ?_
              rintro e w3 ⟨hk3, he3⟩
              rw [if_pos HE.out, ← HWL.out] at he3
              obtain ⟨bv, rfl, hb3⟩ := he3
              obtain ⟨bo, bc, hbv⟩ := ownsRow_shape hb3
              subst hbv
              have HB3 := hid_of hb3
              have HW3 := hid_of (hk3.ownsRow HW2.out (fun _ _ f => f))
              have HI3 := hid_of (HI2.out.same hk3)
              have HS3 := hid_of hk3.size
              have hE3 := encode_any (.slice mo nm mc) us w3 (HX.out.kept (HK1.out.trans HI3.out.kept) (fun _ _ f => f)) HXO.out (by have := HXL.out; omega)
              have HE3 := hid_of hE3
              clear hE3 hb3 hk3 HE2 HW2 HI2
              go_wp2_with fail
              refine HE3.out.mono ?_
              rintro e w4 ⟨hk4, he4⟩
              rw [if_pos HE.out, ← HWL.out] at he4
              obtain ⟨cv, rfl, hc4⟩ := he4
              obtain ⟨co, cc, hcv⟩ := ownsRow_shape hc4
              subst hcv
              have HC4 := hid_of hc4
              have HB4 := hid_of (hk4.ownsRow HB3.out (fun _ _ f => f))
              have HBL := hid_of (fun q hq => (HB3.out.lt q hq).2)
              have HW4 := hid_of (hk4.ownsRow HW3.out (fun _ _ f => f))
              have HI4 := hid_of (HI3.out.same hk4)
              have HS4 := hid_of hk4.size
              have hLE := lend2_any (.slice wo wl wc) (encB us) w4 (isB_own HW4.out) (by rw [← HWL.out]; omega)
              rw [← HWL.out] at hLE
              have HLE := hid_of hLE
              clear hLE hc4 hk4 HE3 HW3 HI3 HB3
              go_wp2_with fail
              refine HLE.out.mono ?_
              rintro e w5 ⟨rfl, hl5, hk5⟩
              have HL5 := hid_of hl5
              have HK5 := hid_of hk5
              have hg5 : w4.heap.size < w5.heap.size := by obtain ⟨cur, h0, _⟩ := hl5; exact (Array.getElem?_eq_some_iff.1 h0).1
              have HG5 := hid_of hg5
              have hIR : IsR w5 w4.heap.size (.slice (some ⟨w4.heap.size, 0, none⟩) (encB us).length (wl + 67)) (encB us) := .inr ⟨0, wl + 67, rfl, by rw [← HWL.out]; omega, by omega, by unfold maxLen; omega, fun i hi => by rw [Nat.zero_add]; exact hl5.at hi⟩
              have hD1 := decode_x w4.heap.size (some ⟨w4.heap.size, 0, none⟩) (wl + 67) (encB us) w5 hIR hg5 HRB.out
              rw [← HWL.out] at hD1
              have HD1 := hid_of hD1
              have HIR := hid_of hIR
              clear hD1 hIR hg5 hl5 hk5 HLE
              go_wp2_with fail
              refine HD1.out.mono ?_
              rintro e w6 ⟨hk6, he6⟩
              rw [right_dec HXO.out HE.out] at he6
              obtain ⟨⟨pv, rfl, hp6⟩, -⟩ := he6
              obtain ⟨po, pc, hpv⟩ := ownsRow_shape hp6
              rw [← HXN.out] at hpv
              subst hpv
              have HP6 := hid_of hp6
              have HL6 := hid_of (HL5.out.kept hk6 (fun f => f))
              have HK6 := hid_of (HK5.out.trans hk6)
              have HS6 := hid_of hk6.size
              have hD2 := decode_x w4.heap.size (some ⟨w4.heap.size, 0, none⟩) (wl + 67) (encB us) w6 (HIR.out.kept hk6 (fun f => f)) (Nat.lt_of_lt_of_le HG5.out hk6.size) HRB.out
              rw [← HWL.out] at hD2
              have HD2 := hid_of hD2
              clear hD2 hp6 hk6 HD1 HIR HL5 HK5
              go_wp2_with fail
              refine HD2.out.mono ?_
              rintro e w7 ⟨hk7, he7⟩
              rw [right_dec HXO.out HE.out] at he7
              obtain ⟨⟨qv, rfl, hq7⟩, -⟩ := he7
              obtain ⟨qo, qc, hqv⟩ := ownsRow_shape hq7
              rw [← HXN.out] at hqv
              subst hqv
              have HQ7 := hid_of hq7
              have HPL := hid_of (fun q hq => (HP6.out.lt q hq).2)
              have HP7 := hid_of (hk7.ownsRow HP6.out (fun _ _ f => f))
              have HL7 := hid_of (HL6.out.kept hk7 (fun f => f))
              have HK7 := hid_of (HK6.out.trans hk7)
              have HS7 := hid_of hk7.size
              have hX7 := HX.out.kept (HK1.out.trans (HI4.out.kept.trans HK7.out)) (fun _ _ f => f)
              have hs1 := conv_str w7 _ _ (isB_own (HK7.out.ownsRow HB4.out (fun _ _ f => f)))
              have hs2 := conv_str w7 _ _ (isB_own (HK7.out.ownsRow HC4.out (fun _ _ f => f)))
              have hs3 := conv_str w7 _ _ (isB_own (HK7.out.ownsRow HW4.out (fun _ _ f => f)))
              have hS1 := same_any (.slice po nm pc) (.slice mo nm mc) us us w7 (rowI_own HP7.out) hX7 (by have := HXL.out; omega) (by have := HXL.out; omega)
              rw [sameI_refl] at hS1
              have HS1 := hid_of hS1
              have HX7 := hid_of hX7
              obtain ⟨sa, hsa⟩ : ∃ s, s = str (encB us) := ⟨_, rfl⟩
              rw [← hsa] at hs1 hs2 hs3
              clear hS1 hq7 hk7 hX7 hsa HD2 HP6 HL6 HK6
              go_wp2_with fail
              refine HS1.out.mono ?_
              rintro e w8 ⟨rfl, d8, rfl⟩
              have hd8 : Kept (fun _ => False) w7 (w7.drewN d8) := kept_drewN (Kept.refl _ _) d8
              have hS2 := same_any (.slice qo nm qc) (.slice mo nm mc) us us (w7.drewN d8) (rowI_own (hd8.ownsRow HQ7.out (fun _ _ f => f))) (HX7.out.kept hd8 (fun _ _ f => f)) (by have := HXL.out; omega) (by have := HXL.out; omega)
              rw [sameI_refl] at hS2
              have HS22 := hid_of hS2
              clear hS2 HS1 hs1 hs2 hs3
              go_wp2_with fail
              refine HS22.out.mono ?_
              rintro e w9 ⟨rfl, d9, rfl⟩
              have hd9 : Kept (fun _ => False) w7 ((w7.drewN d8).drewN d9) := kept_drewN hd8 d9
              have HL9 := hid_of (HL7.out.kept hd9 (fun f => f))
              have HK9 := hid_of (HK7.out.trans hd9)
              have HP9 := hid_of (hd9.ownsRow HP7.out (fun _ _ f => f))
              have HQ9 := hid_of (hd9.ownsRow HQ7.out (fun _ _ f => f))
              clear hd8 hd9 HS22 HX7 HP7 HQ7 HL7 HK7
              generalize (w7.drewN d8).drewN d9 = w9 at *
              have hKE := held2_any w4.heap.size (.slice wo wl wc) (encB us) w9 HL9.out (isB_own (HK9.out.ownsRow HW4.out (fun _ _ f => f))) (by rw [← HWL.out]; omega)
              rw [← HWL.out] at hKE
              have HKE := hid_of hKE
              clear hKE HL9
              go_wp2_with fail
              refine HKE.out.mono ?_
              rintro e w10 ⟨rfl, hk10⟩
              have hkT : Kept (fun k => k = w4.heap.size) w4 w10 := (HK9.out.mono (fun _ _ f => f.elim)).trans hk10
              have HI10 := hid_of (HI4.out.over (Nat.le_refl _) hkT)
              have HB10 := hid_of (hkT.ownsRow HB4.out (fun q hq e => by have := (HB4.out.lt q hq).2; omega))
              have HC10 := hid_of (hkT.ownsRow HC4.out (fun q hq e => by have := (HC4.out.lt q hq).2; omega))
              have HP10 := hid_of (hk10.ownsRow HP9.out (fun q hq e => by have := (HP9.out.lt q hq).1; have := HG5.out; omega))
              have HQ10 := hid_of (hk10.ownsRow HQ9.out (fun q hq e => by have := (HQ9.out.lt q hq).1; have := HG5.out; have := HS6.out; omega))
              have hbl : bs.length ≤ 8 := by have := HBS.out; omega
              have hrl : rs.length ≤ 8 := by have := HRS.out; omega
              have HBK : Hid (∀ q, Blk bs q → q < wr.heap.size) := fun q hq => HI.out.b.blk hq
              have HRK : Hid (∀ q, Blk rs q → q < wr.heap.size) := fun q hq => HI.out.r.blk hq
              have HWN : Hid (w1.heap.size ≤ wr.heap.size) := HI.out.kept.size
              clear hkT hk10 HKE HI4 HB4 HC4 HP9 HQ9 HK9 HW4 HI
              go_wp2_with (at_builtin; refine wpList_append_old _ rfl (.tmp 107) (.tmp 110) 24 rfl 0 26 i26 (.slice none 0 0) 1 24 Try.underlying24 hi26 z260 z261 z262 rfl (by decide) _ bs.length (bs.map RL.v) rfl (HI10.out.b.row.alloc _) ⟨_, 0, none⟩ 2 2 [.slice bo wl bc, .slice co wl cc] rfl rfl (cell_two_new _ _ _ _) (by intro u hu; simp at hu; rcases hu with rfl | rfl <;> rfl) (by unfold maxLen; omega) (by omega) (Nat.zero_le _) ?_)
              intro bv' w11 hown11 hgrow11 hat11 hold11
              have hk11 := kept_grown hgrow11 ((Kept.refl _ w10).alloc _)
              have HI11 := hid_of (HI10.out.pushB (a := ⟨.slice bo wl bc, wl, (encB us).map (Value.int .u8)⟩) (b := ⟨.slice co wl cc, wl, (encB us).map (Value.int .u8)⟩) (own_mono HB10.out (Nat.zero_le _)) (own_mono HC10.out (Nat.zero_le _))
                (fun q hq e => by have h1 := HBL.out q hq; have h2 := (HC10.out.lt q e).1; omega) (fun q hq e => by have h1 := HBK.out q hq; have h2 := (HB10.out.lt q e).1; have := HS2.out; omega) (fun q hq e => by have h1 := HBK.out q hq; have h2 := (HC10.out.lt q e).1; have := HS2.out; have := HS3.out; omega)
                (fun q e => by have h2 := (HB10.out.lt q e).1; have := HS2.out; have := HWN.out; omega) (fun q e => by have h2 := (HC10.out.lt q e).1; have := HS2.out; have := HS3.out; have := HWN.out; omega) (show wl ≤ 4194304 by omega) (show wl ≤ 4194304 by omega) hown11 hk11 (at_of hat11 (by omega)))
              have HP11 := hid_of (hk11.ownsRow HP10.out (fun q hq e => own_apart HI10.out.b.row HP10.out (by decide) e hq))
              have HQ11 := hid_of (hk11.ownsRow HQ10.out (fun q hq e => own_apart HI10.out.b.row HQ10.out (by decide) e hq))
              clear hown11 hgrow11 hat11 hold11 hk11 HB10 HC10 HI10 HP10 HQ10
              go_wp2_with (at_builtin; refine wpList_append_old _ rfl (.tmp 112) (.tmp 115) 25 rfl 0 22 i22 (.slice none 0 0) 1 24 Try.underlying25 hi22 z220 z221 z222 rfl (by decide) _ rs.length (rs.map RL.v) rfl (HI11.out.r.row.alloc _) ⟨_, 0, none⟩ 2 2 [.slice po nm pc, .slice qo nm qc] rfl rfl (cell_two_new _ _ _ _) (by intro u hu; simp at hu; rcases hu with rfl | rfl <;> rfl) (by unfold maxLen; omega) (by omega) (Nat.zero_le _) ?_)
              intro rv' w12 hown12 hgrow12 hat12 hold12
              have hk12 := kept_grown hgrow12 ((Kept.refl _ w11).alloc _)
              have hxn : nm ≤ 4194304 := by rw [HXN.out]; have := HUL.out; omega
              have HI12 := hid_of (HI11.out.pushR (a := ⟨.slice po nm pc, nm, icells us⟩) (b := ⟨.slice qo nm qc, nm, icells us⟩) (by rw [HXN.out]; rw [HXN.out] at HP11; exact own_mono HP11.out (Nat.zero_le _)) (by rw [HXN.out]; rw [HXN.out] at HQ11; exact own_mono HQ11.out (Nat.zero_le _))
                (fun q hq e => by have h1 := HPL.out q hq; have h2 := (HQ11.out.lt q e).1; omega) (fun q hq e => by have h1 := HRK.out q hq; have h2 := (HP11.out.lt q e).1; have := HS2.out; have := HS3.out; have := HS4.out; have := HG5.out; omega) (fun q hq e => by have h1 := HRK.out q hq; have h2 := (HQ11.out.lt q e).1; have := HS2.out; have := HS3.out; have := HS4.out; have := HG5.out; have := HS6.out; omega)
                (fun q e => by have h2 := (HP11.out.lt q e).1; have := HS2.out; have := HS3.out; have := HS4.out; have := HG5.out; have := HWN.out; omega) (fun q e => by have h2 := (HQ11.out.lt q e).1; have := HS2.out; have := HS3.out; have := HS4.out; have := HG5.out; have := HS6.out; have := HWN.out; omega) hxn hxn hown12 hk12 (at_of hat12 (by omega)))
              have HB12 : Hid ((bs ++ [RL.mk (.slice bo wl bc) wl ((encB us).map (Value.int .u8)), RL.mk (.slice co wl cc) wl ((encB us).map (Value.int .u8))]).length ≤ 4 * k + 2 * (1 + 1)) := by unfold Hid; rw [List.length_append]; have := HBS.out; simp; omega
              have HR12 : Hid ((rs ++ [RL.mk (.slice po nm pc) nm (icells us), RL.mk (.slice qo nm qc) nm (icells us)]).length ≤ 4 * k + 2 * (1 + 1)) := by unfold Hid; rw [List.length_append]; have := HRS.out; simp; omega
              clear hown12 hgrow12 hat12 hold12 hk12 HI11 HP11 HQ11
              go_wp2
              go_roundw
              case rel => exact ⟨1 + 1, _, _, by omega, by go_num, HB12, HR12, HI12.out⟩
              case measure => simp [intOf]
            · rw [if_neg hE] at he2
              subst he2
              have hEn : encE us ≠ 0 := hE
              have HB12 : Hid (bs.length ≤ 4 * k + 2 * (1 + 1)) := by unfold Hid; have := HBS.out; omega
              have HR12 : Hid (rs.length ≤ 4 * k + 2 * (1 + 1)) := by unfold Hid; have := HRS.out; omega
              generalize encE us = ee at *
              go_wp2
              go_roundw
              case rel => exact ⟨1 + 1, _, _, by omega, by go_num, HB12, HR12, HI2.out⟩
              case measure => simp [intOf]
          · obtain ⟨us, HX, HXO, HXL, HXN⟩ : ∃ us, Hid (RowI w (.slice lo nl lc) us) ∧ Hid (∀ y ∈ us, y.Ok) ∧ Hid (us.length * 16 ≤ 140737488351232) ∧ Hid (nl = us.length) := ⟨ys, HL, HYO, HYL, HNL⟩
            have h0 : k2 = 0 := by omega
            subst h0
            have hE1 := encode_ref (.slice lo nl lc) us wr (HX.out.kept (HK1.out.trans HI.out.kept) (fun _ _ f => f)) HXO.out (by have := HXL.out; omega)
            have HE1 := hid_of hE1
            clear hE1
            go_wp2_with fail
            refine HE1.out.mono ?_
            rintro e w2 ⟨hk2', he2⟩
            have HI2 := hid_of (HI.out.same hk2')
            have HS2 := hid_of hk2'.size
            clear hk2' HE1
            by_cases hE : encE us = 0
            · rw [if_pos hE] at he2
              obtain ⟨wv, rfl, hw2⟩ := he2
              obtain ⟨wo, wc, hwv⟩ := ownsRow_shape hw2
              obtain ⟨wl, hwl⟩ : ∃ n, n = (encB us).length := ⟨_, rfl⟩
              have hRB := right_bytes HXO.out hE
              have hWS : wl ≤ 40960 := by rw [hwl]; exact hRB.2
              have HRB := hid_of hRB.1
              have hUL := (encE_zero hE).1
              have HUL := hid_of hUL
              rw [← hwl] at hwv hw2
              subst hwv
              have HWL := hid_of hwl
              have HW2 := hid_of hw2
              have HE := hid_of hE
              have hE2 := encode_any (.slice lo nl lc) us w2 (HX.out.kept (HK1.out.trans HI2.out.kept) (fun _ _ f => f)) HXO.out (by have := HXL.out; omega)
              have HE2 := hid_of hE2
              clear hE2 hw2 hwl hRB hE hUL
              go_wp2_with fail
              refine HE2.out.mono ?_
              rintro e w3 ⟨hk3, he3⟩
              rw [if_pos HE.out, ← HWL.out] at he3
              obtain ⟨bv, rfl, hb3⟩ := he3
              obtain ⟨bo, bc, hbv⟩ := ownsRow_shape hb3
              subst hbv
              have HB3 := hid_of hb3
              have HW3 := hid_of (hk3.ownsRow HW2.out (fun _ _ f => f))
              have HI3 := hid_of (HI2.out.same hk3)
              have HS3 := hid_of hk3.size
              have hE3 := encode_any (.slice lo nl lc) us w3 (HX.out.kept (HK1.out.trans HI3.out.kept) (fun _ _ f => f)) HXO.out (by have := HXL.out; omega)
              have HE3 := hid_of hE3
              clear hE3 hb3 hk3 HE2 HW2 HI2
              go_wp2_with fail
              refine HE3.out.mono ?_
              rintro e w4 ⟨hk4, he4⟩
              rw [if_pos HE.out, ← HWL.out] at he4
              obtain ⟨cv, rfl, hc4⟩ := he4
              obtain ⟨co, cc, hcv⟩ := ownsRow_shape hc4
              subst hcv
              have HC4 := hid_of hc4
              have HB4 := hid_of (hk4.ownsRow HB3.out (fun _ _ f => f))
              have HBL := hid_of (fun q hq => (HB3.out.lt q hq).2)
              have HW4 := hid_of (hk4.ownsRow HW3.out (fun _ _ f => f))
              have HI4 := hid_of (HI3.out.same hk4)
              have HS4 := hid_of hk4.size
              have hLE := lend2_any (.slice wo wl wc) (encB us) w4 (isB_own HW4.out) (by rw [← HWL.out]; omega)
              rw [← HWL.out] at hLE
              have HLE := hid_of hLE
              clear hLE hc4 hk4 HE3 HW3 HI3 HB3
              go_wp2_with fail
              refine HLE.out.mono ?_
              rintro e w5 ⟨rfl, hl5, hk5⟩
              have HL5 := hid_of hl5
              have HK5 := hid_of hk5
              have hg5 : w4.heap.size < w5.heap.size := by obtain ⟨cur, h0, _⟩ := hl5; exact (Array.getElem?_eq_some_iff.1 h0).1
              have HG5 := hid_of hg5
              have hIR : IsR w5 w4.heap.size (.slice (some ⟨w4.heap.size, 0, none⟩) (encB us).length (wl + 67)) (encB us) := .inr ⟨0, wl + 67, rfl, by rw [← HWL.out]; omega, by omega, by unfold maxLen; omega, fun i hi => by rw [Nat.zero_add]; exact hl5.at hi⟩
              have hD1 := decode_x w4.heap.size (some ⟨w4.heap.size, 0, none⟩) (wl + 67) (encB us) w5 hIR hg5 HRB.out
              rw [← HWL.out] at hD1
              have HD1 := hid_of hD1
              have HIR := hid_of hIR
              clear hD1 hIR hg5 hl5 hk5 HLE
              go_wp2_with fail
              refine HD1.out.mono ?_
              rintro e w6 ⟨hk6, he6⟩
              rw [right_dec HXO.out HE.out] at he6
              obtain ⟨⟨pv, rfl, hp6⟩, -⟩ := he6
              obtain ⟨po, pc, hpv⟩ := ownsRow_shape hp6
              rw [← HXN.out] at hpv
              subst hpv
              have HP6 := hid_of hp6
              have HL6 := hid_of (HL5.out.kept hk6 (fun f => f))
              have HK6 := hid_of (HK5.out.trans hk6)
              have HS6 := hid_of hk6.size
              have hD2 := decode_x w4.heap.size (some ⟨w4.heap.size, 0, none⟩) (wl + 67) (encB us) w6 (HIR.out.kept hk6 (fun f => f)) (Nat.lt_of_lt_of_le HG5.out hk6.size) HRB.out
              rw [← HWL.out] at hD2
              have HD2 := hid_of hD2
              clear hD2 hp6 hk6 HD1 HIR HL5 HK5
              go_wp2_with fail
              refine HD2.out.mono ?_
              rintro e w7 ⟨hk7, he7⟩
              rw [right_dec HXO.out HE.out] at he7
              obtain ⟨⟨qv, rfl, hq7⟩, -⟩ := he7
              obtain ⟨qo, qc, hqv⟩ := ownsRow_shape hq7
              rw [← HXN.out] at hqv
              subst hqv
              have HQ7 := hid_of hq7
              have HPL := hid_of (fun q hq => (HP6.out.lt q hq).2)
              have HP7 := hid_of (hk7.ownsRow HP6.out (fun _ _ f => f))
              have HL7 := hid_of (HL6.out.kept hk7 (fun f => f))
              have HK7 := hid_of (HK6.out.trans hk7)
              have HS7 := hid_of hk7.size
              have hX7 := HX.out.kept (HK1.out.trans (HI4.out.kept.trans HK7.out)) (fun _ _ f => f)
              have hs1 := conv_str w7 _ _ (isB_own (HK7.out.ownsRow HB4.out (fun _ _ f => f)))
              have hs2 := conv_str w7 _ _ (isB_own (HK7.out.ownsRow HC4.out (fun _ _ f => f)))
              have hs3 := conv_str w7 _ _ (isB_own (HK7.out.ownsRow HW4.out (fun _ _ f => f)))
              have hS1 := same_any (.slice po nl pc) (.slice lo nl lc) us us w7 (rowI_own HP7.out) hX7 (by have := HXL.out; omega) (by have := HXL.out; omega)
              rw [sameI_refl] at hS1
              have HS1 := hid_of hS1
              have HX7 := hid_of hX7
              obtain ⟨sa, hsa⟩ : ∃ s, s = str (encB us) := ⟨_, rfl⟩
              rw [← hsa] at hs1 hs2 hs3
              clear hS1 hq7 hk7 hX7 hsa HD2 HP6 HL6 HK6
              go_wp2_with fail
              refine HS1.out.mono ?_
              rintro e w8 ⟨rfl, d8, rfl⟩
              have hd8 : Kept (fun _ => False) w7 (w7.drewN d8) := kept_drewN (Kept.refl _ _) d8
              have hS2 := same_any (.slice qo nl qc) (.slice lo nl lc) us us (w7.drewN d8) (rowI_own (hd8.ownsRow HQ7.out (fun _ _ f => f))) (HX7.out.kept hd8 (fun _ _ f => f)) (by have := HXL.out; omega) (by have := HXL.out; omega)
              rw [sameI_refl] at hS2
              have HS22 := hid_of hS2
              clear hS2 HS1 hs1 hs2 hs3
              go_wp2_with fail
              refine HS22.out.mono ?_
              rintro e w9 ⟨rfl, d9, rfl⟩
              have hd9 : Kept (fun _ => False) w7 ((w7.drewN d8).drewN d9) := kept_drewN hd8 d9
              have HL9 := hid_of (HL7.out.kept hd9 (fun f => f))
              have HK9 := hid_of (HK7.out.trans hd9)
              have HP9 := hid_of (hd9.ownsRow HP7.out (fun _ _ f => f))
              have HQ9 := hid_of (hd9.ownsRow HQ7.out (fun _ _ f => f))
              clear hd8 hd9 HS22 HX7 HP7 HQ7 HL7 HK7
              generalize (w7.drewN d8).drewN d9 = w9 at *
              have hKE := held2_any w4.heap.size (.slice wo wl wc) (encB us) w9 HL9.out (isB_own (HK9.out.ownsRow HW4.out (fun _ _ f => f))) (by rw [← HWL.out]; omega)
              rw [← HWL.out] at hKE
              have HKE := hid_of hKE
              clear hKE HL9
              go_wp2_with fail
              refine HKE.out.mono ?_
              rintro e w10 ⟨rfl, hk10⟩
              have hkT : Kept (fun k => k = w4.heap.size) w4 w10 := (HK9.out.mono (fun _ _ f => f.elim)).trans hk10
              have HI10 := hid_of (HI4.out.over (Nat.le_refl _) hkT)
              have HB10 := hid_of (hkT.ownsRow HB4.out (fun q hq e => by have := (HB4.out.lt q hq).2; omega))
              have HC10 := hid_of (hkT.ownsRow HC4.out (fun q hq e => by have := (HC4.out.lt q hq).2; omega))
              have HP10 := hid_of (hk10.ownsRow HP9.out (fun q hq e => by have := (HP9.out.lt q hq).1; have := HG5.out; omega))
              have HQ10 := hid_of (hk10.ownsRow HQ9.out (fun q hq e => by have := (HQ9.out.lt q hq).1; have := HG5.out; have := HS6.out; omega))
              have hbl : bs.length ≤ 8 := by have := HBS.out; omega
              have hrl : rs.length ≤ 8 := by have := HRS.out; omega
              have HBK : Hid (∀ q, Blk bs q → q < wr.heap.size) := fun q hq => HI.out.b.blk hq
              have HRK : Hid (∀ q, Blk rs q → q < wr.heap.size) := fun q hq => HI.out.r.blk hq
              have HWN : Hid (w1.heap.size ≤ wr.heap.size) := HI.out.kept.size
              clear hkT hk10 HKE HI4 HB4 HC4 HP9 HQ9 HK9 HW4 HI
              go_wp2_with (at_builtin; refine wpList_append_old _ rfl (.tmp 107) (.tmp 110) 24 rfl 0 26 i26 (.slice none 0 0) 1 24 Try.underlying24 hi26 z260 z261 z262 rfl (by decide) _ bs.length (bs.map RL.v) rfl (HI10.out.b.row.alloc _) ⟨_, 0, none⟩ 2 2 [.slice bo wl bc, .slice co wl cc] rfl rfl (cell_two_new _ _ _ _) (by intro u hu; simp at hu; rcases hu with rfl | rfl <;> rfl) (by unfold maxLen; omega) (by omega) (Nat.zero_le _) ?_)
              intro bv' w11 hown11 hgrow11 hat11 hold11
              have hk11 := kept_grown hgrow11 ((Kept.refl _ w10).alloc _)
              have HI11 := hid_of (HI10.out.pushB (a := ⟨.slice bo wl bc, wl, (encB us).map (Value.int .u8)⟩) (b := ⟨.slice co wl cc, wl, (encB us).map (Value.int .u8)⟩) (own_mono HB10.out (Nat.zero_le _)) (own_mono HC10.out (Nat.zero_le _))
                (fun q hq e => by have h1 := HBL.out q hq; have h2 := (HC10.out.lt q e).1; omega) (fun q hq e => by have h1 := HBK.out q hq; have h2 := (HB10.out.lt q e).1; have := HS2.out; omega) (fun q hq e => by have h1 := HBK.out q hq; have h2 := (HC10.out.lt q e).1; have := HS2.out; have := HS3.out; omega)
                (fun q e => by have h2 := (HB10.out.lt q e).1; have := HS2.out; have := HWN.out; omega) (fun q e => by have h2 := (HC10.out.lt q e).1; have := HS2.out; have := HS3.out; have := HWN.out; omega) (show wl ≤ 4194304 by omega) (show wl ≤ 4194304 by omega) hown11 hk11 (at_of hat11 (by omega)))
              have HP11 := hid_of (hk11.ownsRow HP10.out (fun q hq e => own_apart HI10.out.b.row HP10.out (by decide) e hq))
              have HQ11 := hid_of (hk11.ownsRow HQ10.out (fun q hq e => own_apart HI10.out.b.row HQ10.out (by decide) e hq))
              clear hown11 hgrow11 hat11 hold11 hk11 HB10 HC10 HI10 HP10 HQ10
              go_wp2_with (at_builtin; refine wpList_append_old _ rfl (.tmp 112) (.tmp 115) 25 rfl 0 22 i22 (.slice none 0 0) 1 24 Try.underlying25 hi22 z220 z221 z222 rfl (by decide) _ rs.length (rs.map RL.v) rfl (HI11.out.r.row.alloc _) ⟨_, 0, none⟩ 2 2 [.slice po nl pc, .slice qo nl qc] rfl rfl (cell_two_new _ _ _ _) (by intro u hu; simp at hu; rcases hu with rfl | rfl <;> rfl) (by unfold maxLen; omega) (by omega) (Nat.zero_le _) ?_)
              intro rv' w12 hown12 hgrow12 hat12 hold12
              have hk12 := kept_grown hgrow12 ((Kept.refl _ w11).alloc _)
              have hxn : nl ≤ 4194304 := by rw [HXN.out]; have := HUL.out; omega
              have HI12 := hid_of (HI11.out.pushR (a := ⟨.slice po nl pc, nl, icells us⟩) (b := ⟨.slice qo nl qc, nl, icells us⟩) (by rw [HXN.out]; rw [HXN.out] at HP11; exact own_mono HP11.out (Nat.zero_le _)) (by rw [HXN.out]; rw [HXN.out] at HQ11; exact own_mono HQ11.out (Nat.zero_le _))
                (fun q hq e => by have h1 := HPL.out q hq; have h2 := (HQ11.out.lt q e).1; omega) (fun q hq e => by have h1 := HRK.out q hq; have h2 := (HP11.out.lt q e).1; have := HS2.out; have := HS3.out; have := HS4.out; have := HG5.out; omega) (fun q hq e => by have h1 := HRK.out q hq; have h2 := (HQ11.out.lt q e).1; have := HS2.out; have := HS3.out; have := HS4.out; have := HG5.out; have := HS6.out; omega)
                (fun q e => by have h2 := (HP11.out.lt q e).1; have := HS2.out; have := HS3.out; have := HS4.out; have := HG5.out; have := HWN.out; omega) (fun q e => by have h2 := (HQ11.out.lt q e).1; have := HS2.out; have := HS3.out; have := HS4.out; have := HG5.out; have := HS6.out; have := HWN.out; omega) hxn hxn hown12 hk12 (at_of hat12 (by omega)))
              have HB12 : Hid ((bs ++ [RL.mk (.slice bo wl bc) wl ((encB us).map (Value.int .u8)), RL.mk (.slice co wl cc) wl ((encB us).map (Value.int .u8))]).length ≤ 4 * k + 2 * (0 + 1)) := by unfold Hid; rw [List.length_append]; have := HBS.out; simp; omega
              have HR12 : Hid ((rs ++ [RL.mk (.slice po nl pc) nl (icells us), RL.mk (.slice qo nl qc) nl (icells us)]).length ≤ 4 * k + 2 * (0 + 1)) := by unfold Hid; rw [List.length_append]; have := HRS.out; simp; omega
              clear hown12 hgrow12 hat12 hold12 hk12 HI11 HP11 HQ11
              go_wp2
              go_roundw
              case rel => exact ⟨0 + 1, _, _, by omega, by go_num, HB12, HR12, HI12.out⟩
              case measure => simp [intOf]
            · rw [if_neg hE] at he2
              subst he2
              have hEn : encE us ≠ 0 := hE
              have HB12 : Hid (bs.length ≤ 4 * k + 2 * (0 + 1)) := by unfold Hid; have := HBS.out; omega
              have HR12 : Hid (rs.length ≤ 4 * k + 2 * (0 + 1)) := by unfold Hid; have := HRS.out; omega
              generalize encE us = ee at *
              go_wp2
              go_roundw
              case rel => exact ⟨0 + 1, _, _, by omega, by go_num, HB12, HR12, HI2.out⟩
              case measure => simp [intOf]
        · have hk2' : k2 = 2 := by omega
          subst hk2'
          have hI2 : ¬ (((2 : Nat) : Int) < 2) := by omega
          go_wp2
          go_roundw
          case rel => exact ⟨k + 1, bs, rs, by omega, by go_num, (by unfold Hid; have := HBS.out; omega), (by unfold Hid; have := HRS.out; omega), HI.out⟩
          case measure => simp [intOf]; omega
    · have hk' : k = 2 := by omega
      subst hk'
      have hI2 : ¬ (((2 : Nat) : Int) < 2) := by omega
      rename World => w2
      have hkA : Kept (fun _ => False) w2 (w2.alloc (.cells #[] 42)) := (Kept.refl _ _).alloc _
      have hL2 := HL.out.kept (HK1.out.trans (HI.out.kept.trans hkA)) (fun _ _ f => f)
      obtain ⟨ra, ca, wa, hra, hoa, hka⟩ := app_rows (w2.alloc (.cells #[] 42)) _ w2.heap.size [] lo lc ys (own_none w2 w2.heap.size (Nat.le_refl _)) (by rw [← HNL.out]; exact hL2) hkA.size (by have := HYL.out; simp; omega) (by rw [← HNL.out]; exact HLO.out)
      rw [List.nil_append, ← HNL.out] at hra hoa
      have hkAa : Kept (fun _ => False) w2 wa := kept_new hka (fun k e => by simp [Value.ownBlock] at e; omega)
      have HIA := hid_of (HI.out.same hkAa)
      have HOA := hid_of hoa
      have HBK : Hid (∀ q, Blk bs q → q < w2.heap.size) := fun q hq => HI.out.b.blk hq
      have HRK : Hid (∀ q, Blk rs q → q < w2.heap.size) := fun q hq => HI.out.r.blk hq
      clear hkA hL2 hoa hka hkAa HI
      go_wp2_with (at_builtin; refine wp_app2 rfl (.tmp 117) (.tmp 118) 22 22 rfl _ _ rfl rfl _ _ hra ?_)
      clear hra
      go_wp2_with fail
      refine (grownI_any u6 rs wa HIA.out.r HIA.out.r0 (by have := HRS.out; omega) HIA.out.rl).mono ?_
      rintro e w3 ⟨rfl, hk3⟩
      have HK3 := hid_of (HIA.out.kept.step hk3 (fun q hq e => by have := HIA.out.rb q e; omega))
      have HB3 := hid_of (HIA.out.b.kept hk3 (fun q hq ⟨i, hi, e⟩ => own_apart HIA.out.b.row (HIA.out.r.own i hi) (by decide) hq e) (fun q ⟨i, hi, e⟩ ⟨i', hi', e'⟩ => own_apart (HIA.out.b.own i hi) (HIA.out.r.own i' hi') (by decide) e e'))
      have HOA3 := hid_of (hk3.ownsRow HOA.out (fun q hq e => by have h1 := (HOA.out.lt q hq).1; have h2 := HRK.out q e; omega))
      clear hk3 HOA
      go_wp2_with fail
      refine (grownB_any u5 bs w3 HB3.out HIA.out.b0 (by have := HBS.out; omega) HIA.out.bl).mono ?_
      rintro e w4 ⟨rfl, hk4⟩
      have HK4 := hid_of (HK3.out.step hk4 (fun q hq e => by have := HIA.out.bb q e; omega))
      have HOA4 := hid_of (hk4.ownsRow HOA3.out (fun q hq e => by have h1 := (HOA3.out.lt q hq).1; have h2 := HBK.out q e; omega))
      have hS := same_any (.slice lo nl lc) (.slice ra nl ca) ys ys w4 (HL.out.kept (HK1.out.trans HK4.out) (fun _ _ f => f)) (rowI_own (by rw [← HNL.out]; exact HOA4.out)) (by have := HYL.out; omega) (by have := HYL.out; omega)
      rw [sameI_refl] at hS
      have HS := hid_of hS
      clear hk4 hS HOA3 HK3 HB3 HIA HBK HRK HBS HRS
      go_wp2_with fail
      refine HS.out.mono ?_
      rintro e w5 ⟨rfl, d5, rfl⟩
      have HK5 := hid_of (kept_drewN HK4.out d5)
      clear HS HK4 HOA4
      generalize w4.drewN d5 = w5 at *
      have hkB : Kept (fun _ => False) w5 (w5.alloc (.cells #[] 42)) := (Kept.refl _ _).alloc _
      obtain ⟨rb, cb, wb, hrb, hob, hkb⟩ := app_rows (w5.alloc (.cells #[] 42)) _ w5.heap.size [] lo lc ys (own_none w5 w5.heap.size (Nat.le_refl _)) (by rw [← HNL.out]; exact HL.out.kept (HK1.out.trans (HK5.out.trans hkB)) (fun _ _ f => f)) hkB.size (by have := HYL.out; simp; omega) (by rw [← HNL.out]; exact HLO.out)
      rw [List.nil_append, ← HNL.out] at hrb hob
      have hkBb : Kept (fun _ => False) w5 wb := kept_new hkb (fun k e => by simp [Value.ownBlock] at e; omega)
      have HOB := hid_of (own_mono hob HK5.out.size)
      have HKB := hid_of (HK5.out.trans hkBb)
      have hnl : nl ≤ 140737488351232 := by have := HYL.out; rw [HNL.out]; omega
      have HNN := hid_of hnl
      clear hkB hob hkb hkBb HK5
      go_wp2_with (at_builtin; refine wp_app2 rfl (.tmp 134) (.tmp 135) 22 22 rfl _ _ rfl rfl _ _ hrb ?_)
      clear hrb
      go_wp2_with fail
      go_loopw [23] (fun t wr => ∃ (k : Nat) (us : List IN), k ≤ 3 ∧ t = .int .i64 k ∧ Hid (nl = us.length) ∧ Hid (∀ y ∈ us, y.Ok) ∧ Hid (Kept (fun _ => False) w1 wr) ∧ Hid (wr.ownsRow w1.heap.size 42 2 (.slice rb nl cb) nl (icells us))) (fun t _ => 3 - (intOf t).toNat)
      case atStart => exact ⟨0, ys, by omega, rfl, HNL, HYO, HKB, HOB⟩
      case round =>
        clear HKB HOB
        obtain ⟨k, us, hk, rfl, HUN, HUO, HKR, HOR⟩ := hrel
        by_cases hlt : k < 3
        · have hltI : (k : Int) < 3 := by omega
          by_cases hn0 : 0 < nl
          · have hnI : (0 : Int) < (nl : Int) := by omega
            have hE1 := encode_any (.slice rb nl cb) us wr (rowI_own (by rw [← HUN.out]; exact HOR.out)) HUO.out (by rw [← HUN.out]; omega)
            have HE1 := hid_of hE1
            clear hE1
            go_wp2_with fail
            refine HE1.out.mono ?_
            rintro e w6 he6
            obtain ⟨b1, n1, c1, rfl, hn1, ho6, hk6⟩ := EncR.own he6
            have HN1 := hid_of hn1
            have HO6 := hid_of ho6
            have HK6 := hid_of hk6
            have HM6 := hid_of (hk6.ownsRow HOR.out (fun _ _ f => f))
            have hE2 := encode_ref (.slice rb nl cb) us w6 (rowI_own (by rw [← HUN.out]; exact HM6.out)) HUO.out (by rw [← HUN.out]; omega)
            have HE2 := hid_of hE2
            obtain ⟨ee, hee⟩ : ∃ ee, ee = encE us := ⟨_, rfl⟩
            rw [← hee]
            have HEE := hid_of hee
            clear hE2 hn1 ho6 hk6 he6 hee HE1
            go_wp2_with fail
            refine HE2.out.mono ?_
            rintro e w7 he7
            obtain ⟨b2, n2, c2, rfl, hn2, ho7, hk7⟩ := EncR.own he7
            have HN2 := hid_of hn2
            have HO7 := hid_of ho7
            have HM7 := hid_of (hk7.ownsRow HM6.out (fun _ _ f => f))
            have HK7 := hid_of (HKR.out.trans (HK6.out.trans hk7))
            have hs1 := conv_str w7 _ _ (isB_own (hk7.ownsRow HO6.out (fun _ _ f => f)))
            have hs2 := conv_str w7 _ _ (isB_own ho7)
            obtain ⟨sa, hsa⟩ : ∃ s, s = str (encX us) := ⟨_, rfl⟩
            rw [← hsa] at hs1 hs2
            rw [← HEE.out]
            have hX := encX_ok HUO.out
            have hn2' : n2 ≤ 40960 := by rw [hn2]; exact hX.2
            have HXO := hid_of hX.1
            have hkA : Kept (fun _ => False) w7 (w7.alloc (.cells #[] 5)) := (Kept.refl _ _).alloc _
            obtain ⟨xo, xc, wx, hrx, hox, hkx⟩ := app_bytes (w7.alloc (.cells #[] 5)) _ w7.heap.size [] (.slice b2 n2 c2) (encX us) (own_none8 w7 w7.heap.size (Nat.le_refl _)) (by rw [← hn2]; exact own_mono (hkA.ownsRow ho7 (fun _ _ f => f)) (Nat.zero_le _)) hkA.size (by simp; omega)
            rw [List.nil_append, ← hn2] at hrx hox
            have hkAx : Kept (fun _ => False) w7 wx := kept_new hkx (fun k e => by simp [Value.ownBlock] at e; omega)
            have HKX := hid_of hkAx
            have HOX := hid_of hox
            clear hn2 ho7 he7 hk7 hsa hX hkA hox hkx hkAx HE2 HO6 HK6 HM6 HN1 HEE
            go_wp2_with (at_builtin; refine wp_app2 rfl (.tmp 166) (.tmp 167) 26 26 rfl _ _ rfl rfl _ _ hrx ?_)
            clear hrx hs1 hs2
            go_wp2_with fail
            go_loopw [29] (fun t wq => ∃ (k2 : Nat) (xs : List Int), k2 ≤ 2 ∧ t = .int .i64 k2 ∧ Hid (n2 = xs.length) ∧ Hid (BytesOk xs) ∧ Hid (Kept (fun _ => False) w7 wq) ∧ Hid (wq.ownsRow w7.heap.size 5 1 (.slice xo n2 xc) n2 (xs.map (Value.int .u8)))) (fun t _ => 2 - (intOf t).toNat)
            case atStart => exact ⟨0, encX us, by omega, rfl, HN2, HXO, HKX, HOX⟩
            case round =>
              rename World => wq
              clear HKX HOX HXO
              obtain ⟨k2, xs, hk2, rfl, HXN, HXO, HKQ, HOQ⟩ := hrel
              by_cases hgo : k2 < 2 ∧ 0 < n2
              · obtain ⟨hlt2, hn20⟩ := hgo
                have hltI2 : (k2 : Int) < 2 := by omega
                have hnI2 : (0 : Int) < (n2 : Int) := by omega
                have hp : 0 < wq.heap.size := Nat.lt_of_lt_of_le HP1.out (Nat.le_trans HK7.out.size HKQ.out.size)
                obtain ⟨gq, hgq, hir⟩ := isR_own HOQ.out hp
                have hD1 := decode_x gq xo xc xs wq (by rw [← HXN.out]; exact hir) hgq HXO.out
                rw [← HXN.out] at hD1
                have HD1 := hid_of hD1
                clear hD1 hp hgq hir
                go_wp2_with fail
                refine HD1.out.mono ?_
                rintro e w8 he8
                obtain ⟨v8, rfl, hr8, -, -, hk8⟩ := he8.out
                obtain ⟨o8, c8, hv8⟩ := hr8.shape
                obtain ⟨m8, hm8⟩ : ∃ m, m = (decL xs).length := ⟨_, rfl⟩
                rw [← hm8] at hv8
                subst hv8
                have HO8 := hid_of (hk8.ownsRow HOQ.out (fun _ _ f => f))
                have HR8 := hid_of hr8
                have HK8 := hid_of (HKQ.out.trans hk8)
                have hD2 := decode_ref xo xc xs w8 (by rw [← HXN.out]; exact isB_own HO8.out) HXO.out (by rw [← HXN.out]; exact fun b hb => (HO8.out.lt b hb).2)
                rw [← HXN.out] at hD2
                have HD2 := hid_of hD2
                obtain ⟨dd, hdd⟩ : ∃ dd, dd = decE xs := ⟨_, rfl⟩
                rw [← hdd]
                have HDD := hid_of hdd
                have HM8 := hid_of hm8
                clear hr8 hk8 he8 hD2 hdd hm8 HD1
                go_wp2_with fail
                refine HD2.out.mono ?_
                rintro e w9 he9
                obtain ⟨v9, rfl, hr9, -, -, hk9⟩ := he9.out
                obtain ⟨o9, c9, hv9⟩ := hr9.shape
                rw [← HM8.out] at hv9
                subst hv9
                rw [← HDD.out]
                have HO9 := hid_of (hk9.ownsRow HO8.out (fun _ _ f => f))
                have HK9 := hid_of (HK8.out.trans hk9)
                have hml : (decL xs).length ≤ 9223372036854775807 := by have := decL_len xs; omega
                have hS := same_any (.slice o8 m8 c8) (.slice o9 m8 c9) (decL xs) (decL xs) w9 (HR8.out.kept hk9 (fun _ _ f => f)) hr9 hml hml
                rw [sameI_refl] at hS
                have HS := hid_of hS
                clear hS hr9 hk9 he9 hml HD2 HO8 HR8 HK8 HDD
                go_wp2_with fail
                refine HS.out.mono ?_
                rintro e w10 ⟨rfl, d10, rfl⟩
                have hdr : Kept (fun _ => False) w9 (w9.drewN d10) := kept_drewN (Kept.refl _ _) d10
                have HO10 := hid_of (hdr.ownsRow HO9.out (fun _ _ f => f))
                have HK10 := hid_of (HK9.out.trans hdr)
                clear hdr HS HO9 HK9
                generalize w9.drewN d10 = w10 at *
                obtain ⟨gx, cx, hvx⟩ := own_at HO10.out hn20
                obtain ⟨rfl, rfl⟩ : xo = some ⟨gx, 0, none⟩ ∧ xc = cx := by cases hvx; exact ⟨rfl, rfl⟩
                obtain ⟨y, hy⟩ : ∃ y, xs[n2 - 1]? = some y := ⟨_, List.getElem?_eq_getElem (by rw [← HXN.out]; omega)⟩
                have c0 := own_cell (own_mono HO10.out (Nat.zero_le _)) (g := gx) rfl (n2 - 1) (.int .u8 y) (by rw [List.getElem?_map, hy]; rfl)
                have f0 := HO10.out.frozenAt (n2 - 1)
                have hyr := HXO.out.1 y (List.mem_of_getElem? hy)
                have hxr := xor_range y 2 hyr.1 (by omega) (by omega) (by omega)
                have hst := (HO10.out.stored (n2 - 1) (.int .u8 (bits .xor .u8 y 2))).1
                rw [← List.map_set] at hst
                have HST := hid_of hst
                have HBO := hid_of (bytes_set HXO.out (n2 - 1) hxr)
                have HKS := hid_of (HK10.out.setCell (p := ⟨gx, n2 - 1, none⟩) (.inl (HO10.out.lt gx rfl).1) (.int .u8 (bits .xor .u8 y 2)))
                have HLS : Hid (n2 = (xs.set (n2 - 1) (bits .xor .u8 y 2)).length) := by unfold Hid; rw [List.length_set]; exact HXN.out
                have hsub : ((n2 : Int) - 1).toNat = n2 - 1 := by omega
                have hge : (0 : Int) ≤ (n2 : Int) - 1 := by omega
                clear hy hyr hst HO10 HK10 hvx
                go_wp2
                go_roundw
                case rel => exact ⟨k2 + 1, _, by omega, by go_num, HLS, HBO, HKS, HST⟩
                case measure => simp [intOf]; omega
              · have hc : ¬ k2 < 2 ∨ k2 < 2 ∧ n2 = 0 := by omega
                clear hgo
                rcases hc with hc | ⟨hc, rfl⟩
                · have hcI : ¬ (k2 : Int) < 2 := by omega
                  have HM9 := hid_of (HKQ.out.ownsRow HM7.out (fun _ _ f => f))
                  obtain ⟨gm, cm, hvm⟩ := own_at HM9.out hn0
                  obtain ⟨rfl, rfl⟩ : rb = some ⟨gm, 0, none⟩ ∧ cb = cm := by cases hvm; exact ⟨rfl, rfl⟩
                  have hil : (icells us).length = nl * 2 := HM9.out.1
                  obtain ⟨y0, hy0⟩ : ∃ y, (icells us)[(nl - 1) * 2]? = some y := ⟨_, List.getElem?_eq_getElem (by rw [hil]; omega)⟩
                  obtain ⟨y1, hy1⟩ : ∃ y, (icells us)[(nl - 1) * 2 + 1]? = some y := ⟨_, List.getElem?_eq_getElem (by rw [hil]; omega)⟩
                  have c0 := own_cell (own_mono HM9.out (Nat.zero_le _)) (g := gm) rfl ((nl - 1) * 2) y0 hy0
                  have c1 := own_cell (own_mono HM9.out (Nat.zero_le _)) (g := gm) rfl ((nl - 1) * 2 + 1) y1 hy1
                  have f0 := HM9.out.frozenAt ((nl - 1) * 2)
                  have f1 := HM9.out.frozenAt ((nl - 1) * 2 + 1)
                  have hst := ((HM9.out.stored ((nl - 1) * 2) (.int .i64 3)).1.stored ((nl - 1) * 2 + 1) (.int .i64 (k : Int))).1
                  rw [icells_set us (nl - 1) ⟨3, (k : Int)⟩ (by rw [← HUN.out]; omega)] at hst
                  have HST := hid_of hst
                  have HUO2 := hid_of (ins_set HUO.out (nl - 1) (z := ⟨3, (k : Int)⟩) (show (-9223372036854775808 ≤ (3 : Int) ∧ (3 : Int) < 9223372036854775808) ∧ -9223372036854775808 ≤ (k : Int) ∧ (k : Int) < 9223372036854775808 by omega))
                  have hgb := (HM9.out.lt gm rfl).1
                  have HKS := hid_of (((HK7.out.trans HKQ.out).setCell (p := ⟨gm, (nl - 1) * 2, none⟩) (.inl hgb) (.int .i64 3)).setCell (p := ⟨gm, (nl - 1) * 2 + 1, none⟩) (.inl hgb) (.int .i64 (k : Int)))
                  have HLS : Hid (nl = (us.set (nl - 1) ⟨3, (k : Int)⟩).length) := by unfold Hid; rw [List.length_set]; exact HUN.out
                  have hsub : ((nl : Int) - 1).toNat = nl - 1 := by omega
                  have hge : (0 : Int) ≤ (nl : Int) - 1 := by omega
                  clear hil hy0 hy1 hst hgb HM9 hvm
                  go_wp2
                  go_roundw
                  case rel => exact ⟨k + 1, _, by omega, by go_num, HLS, HUO2, HKS, HST⟩
                  case measure => simp [intOf]; omega
                · have hcI : (k2 : Int) < 2 := by omega
                  have HM9 := hid_of (HKQ.out.ownsRow HM7.out (fun _ _ f => f))
                  obtain ⟨gm, cm, hvm⟩ := own_at HM9.out hn0
                  obtain ⟨rfl, rfl⟩ : rb = some ⟨gm, 0, none⟩ ∧ cb = cm := by cases hvm; exact ⟨rfl, rfl⟩
                  have hil : (icells us).length = nl * 2 := HM9.out.1
                  obtain ⟨y0, hy0⟩ : ∃ y, (icells us)[(nl - 1) * 2]? = some y := ⟨_, List.getElem?_eq_getElem (by rw [hil]; omega)⟩
                  obtain ⟨y1, hy1⟩ : ∃ y, (icells us)[(nl - 1) * 2 + 1]? = some y := ⟨_, List.getElem?_eq_getElem (by rw [hil]; omega)⟩
                  have c0 := own_cell (own_mono HM9.out (Nat.zero_le _)) (g := gm) rfl ((nl - 1) * 2) y0 hy0
                  have c1 := own_cell (own_mono HM9.out (Nat.zero_le _)) (g := gm) rfl ((nl - 1) * 2 + 1) y1 hy1
                  have f0 := HM9.out.frozenAt ((nl - 1) * 2)
                  have f1 := HM9.out.frozenAt ((nl - 1) * 2 + 1)
                  have hst := ((HM9.out.stored ((nl - 1) * 2) (.int .i64 3)).1.stored ((nl - 1) * 2 + 1) (.int .i64 (k : Int))).1
                  rw [icells_set us (nl - 1) ⟨3, (k : Int)⟩ (by rw [← HUN.out]; omega)] at hst
                  have HST := hid_of hst
                  have HUO2 := hid_of (ins_set HUO.out (nl - 1) (z := ⟨3, (k : Int)⟩) (show (-9223372036854775808 ≤ (3 : Int) ∧ (3 : Int) < 9223372036854775808) ∧ -9223372036854775808 ≤ (k : Int) ∧ (k : Int) < 9223372036854775808 by omega))
                  have hgb := (HM9.out.lt gm rfl).1
                  have HKS := hid_of (((HK7.out.trans HKQ.out).setCell (p := ⟨gm, (nl - 1) * 2, none⟩) (.inl hgb) (.int .i64 3)).setCell (p := ⟨gm, (nl - 1) * 2 + 1, none⟩) (.inl hgb) (.int .i64 (k : Int)))
                  have HLS : Hid (nl = (us.set (nl - 1) ⟨3, (k : Int)⟩).length) := by unfold Hid; rw [List.length_set]; exact HUN.out
                  have hsub : ((nl : Int) - 1).toNat = nl - 1 := by omega
                  have hge : (0 : Int) ≤ (nl : Int) - 1 := by omega
                  clear hil hy0 hy1 hst hgb HM9 hvm
                  go_wp2
                  go_roundw
                  case rel => exact ⟨k + 1, _, by omega, by go_num, HLS, HUO2, HKS, HST⟩
                  case measure => simp [intOf]; omega
          · have hn00 : nl = 0 := by omega
            subst hn00
            have HKE := hid_of (HK1.out.trans HKR.out)
            go_wp2
            go_ret
            exact ⟨rfl, HKE.out⟩
        · have hltI : ¬ (k : Int) < 3 := by omega
          have HKE := hid_of (HK1.out.trans HKR.out)
          go_wp2
          go_ret
          exact ⟨rfl, HKE.out⟩
end Go.Proofs.Ytindhkjcifghhab

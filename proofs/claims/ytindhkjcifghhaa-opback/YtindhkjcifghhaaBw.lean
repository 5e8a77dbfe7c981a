/-
  OpBack: the walk.
-/
import Derived.Test.YtindhkjcifghhaaBk
namespace Go.Proofs.Ytindhkjcifghhaa
open Go.RowKit Go.Deep
set_option linter.unusedVariables false
set_option linter.unusedSimpArgs false
set_option maxRecDepth 100000

set_option maxHeartbeats 32000000 in
theorem back_walk (lo mo bo : Option Addr) (lc mc bc : Nat) (ys zs : List IN) (xs : List Int) (w : World) (hl : RowI w (.slice lo ys.length lc) ys) (hm : RowI w (.slice mo zs.length mc) zs) (hbR : SrcR w (.slice bo xs.length bc) xs) (hbB : IsB w (.slice bo xs.length bc) xs) (hyo : ∀ y ∈ ys, y.Ok) (hzo : ∀ z ∈ zs, z.Ok) (hb : BytesOk xs) (hlo : lo = none → ys.length = 0) (hmo : mo = none → zs.length = 0) (hyl : ys.length ≤ 9223372036854775807) (hzl : zs.length ≤ 9223372036854775807) :
    Calls Try.prog 7 #[.slice lo ys.length lc, .slice mo zs.length mc, .slice bo xs.length bc] w fun e w' => e = .returned (.bool true) ∧ Kept (fun _ => False) w w' := by
  obtain ⟨nl, hnl⟩ : ∃ n, n = ys.length := ⟨_, rfl⟩
  obtain ⟨nm, hnm⟩ : ∃ n, n = zs.length := ⟨_, rfl⟩
  obtain ⟨nb, hnb⟩ : ∃ n, n = xs.length := ⟨_, rfl⟩
  have HNL := hid_of hnl
  have HNM := hid_of hnm
  have HNB := hid_of hnb
  have HL := hid_of hl
  have HM := hid_of hm
  have HBR := hid_of hbR
  have HBB := hid_of hbB
  have HYO := hid_of hyo
  have HZO := hid_of hzo
  have HB := hid_of hb
  have HLO := hid_of hlo
  have HMO := hid_of hmo
  have HYL := hid_of hyl
  have HZL := hid_of hzl
  clear hl hm hbR hbB hyo hzo hb hlo hmo hyl hzl
  rw [← hnl, ← hnm, ← hnb]
  clear hnl hnm hnb
  go_enter Try.func7, Try.ntmps7
  go_wp2_with fail
  refine (known_pos w).mono ?_
  rintro e w1 ⟨rfl, hk1, hp1⟩
  have HK1 := hid_of hk1
  have HP1 : Hid (0 < w1.heap.size) := by unfold Hid; omega
  have hE1 := encode_any _ ys w1 (HL.out.kept hk1 (fun _ _ f => f)) HYO.out HYL.out
  rw [← HNL.out] at hE1
  have HE1 := hid_of hE1
  clear hk1 hp1 hE1
  go_wp2_with fail
  refine HE1.out.mono ?_
  rintro e w2 he2
  have hk2 := he2.1
  have HK2 := hid_of (HK1.out.trans hk2)
  have HP2 : Hid (0 < w2.heap.size) := Nat.lt_of_lt_of_le HP1.out hk2.size
  have hE2 := encode_any _ zs w2 (HM.out.kept (HK1.out.trans hk2) (fun _ _ f => f)) HZO.out HZL.out
  rw [← HNM.out] at hE2
  have HE2 := hid_of hE2
  clear hk2 hE2 HE1 HK1 HP1
  by_cases hE : encE ys = 0
  · by_cases hF : encE zs = 0
    · obtain ⟨pv, he, hop⟩ : ∃ pv, e = .returned (.tuple #[pv, .int .i64 0]) ∧ w2.ownsRow w1.heap.size 5 1 pv (encB ys).length ((encB ys).map (Value.int .u8)) := by
        have := he2.2
        rw [if_pos hE] at this
        exact this
      obtain ⟨po, pc, hpv⟩ := ownsRow_shape hop
      obtain ⟨pl, hpl⟩ : ∃ n, n = (encB ys).length := ⟨_, rfl⟩
      have HPL := hid_of hpl
      have hPS : pl ≤ 40960 := by rw [hpl]; exact (right_bytes HYO.out hE).2
      rw [← hpl] at hpv hop
      subst hpv
      subst he
      have HOP2 := hid_of hop
      clear hop he2 hpl
      go_wp2_with fail
      refine HE2.out.mono ?_
      rintro e w3 he3
      obtain ⟨qv, he, hoq⟩ : ∃ qv, e = .returned (.tuple #[qv, .int .i64 0]) ∧ w3.ownsRow w2.heap.size 5 1 qv (encB zs).length ((encB zs).map (Value.int .u8)) := by
        have := he3.2
        rw [if_pos hF] at this
        exact this
      obtain ⟨qo, qc, hqv⟩ := ownsRow_shape hoq
      obtain ⟨ql, hql⟩ : ∃ n, n = (encB zs).length := ⟨_, rfl⟩
      have HQL := hid_of hql
      rw [← hql] at hqv hoq
      subst hqv
      subst he
      have HOQ3 := hid_of hoq
      have hk3 := he3.1
      have HK3 := hid_of (HK2.out.trans hk3)
      have HOP3 := hid_of (hk3.ownsRow HOP2.out (fun _ _ f => f))
      have HP3 : Hid (0 < w3.heap.size) := Nat.lt_of_lt_of_le HP2.out hk3.size
      clear hoq he3 hql hk3 HE2 HK2 HOP2 HP2
      obtain ⟨pg, hpg, hpr⟩ := isR_own HOP3.out HP3.out
      have hDP := decode_x pg po pc (encB ys) w3 (by rw [← HPL.out]; exact hpr) hpg (right_bytes HYO.out hE).1
      rw [← HPL.out] at hDP
      have HDP := hid_of hDP
      clear hpg hpr hDP
      go_wp2_with fail
      refine HDP.out.mono ?_
      rintro e w4 ⟨hk4, he4⟩
      rw [right_dec HYO.out hE] at he4
      obtain ⟨⟨xv, rfl, hox⟩, -⟩ := he4
      have hSP := same_any xv (.slice lo nl lc) ys ys w4 (rowI_own hox) (by rw [HNL.out]; exact HL.out.kept (HK3.out.trans hk4) (fun _ _ f => f)) HYL.out HYL.out
      rw [sameI_refl] at hSP
      obtain ⟨xo, xc, hxv⟩ := ownsRow_shape hox
      rw [← HNL.out] at hxv
      subst hxv
      have HSP := hid_of hSP
      have HK4 := hid_of (HK3.out.trans hk4)
      have HOP4 := hid_of (hk4.ownsRow HOP3.out (fun _ _ f => f))
      have HP4 : Hid (0 < w4.heap.size) := Nat.lt_of_lt_of_le HP3.out hk4.size
      have HOQ4 := hid_of (hk4.ownsRow HOQ3.out (fun _ _ f => f))
      clear hk4 hox hSP HDP HK3 HOP3 HP3 HOQ3
      go_wp2_with fail
      refine HSP.out.mono ?_
      rintro e w5 ⟨rfl, d5, rfl⟩
      have HK5 := hid_of (kept_drewN HK4.out d5)
      have HOP5 := hid_of ((kept_drewN (Kept.refl (fun _ => False) w4) d5).ownsRow HOP4.out (fun _ _ f => f))
      have HP5 : Hid (0 < (w4.drewN d5).heap.size) := HP4.out
      have HOQ5 := hid_of ((kept_drewN (Kept.refl (fun _ => False) w4) d5).ownsRow HOQ4.out (fun _ _ f => f))
      clear HSP HK4 HOP4 HP4 HOQ4
      generalize w4.drewN d5 = w5 at *
      have hs1 := fun d => conv_str (w5.drewN d) _ _ ((isB_own HOP5.out).kept (kept_drewN (Kept.refl (fun _ => False) w5) d) (fun _ _ f => f))
      have hs2 := fun d => conv_str (w5.drewN d) _ _ ((isB_own HOQ5.out).kept (kept_drewN (Kept.refl (fun _ => False) w5) d) (fun _ _ f => f))
      have hrs := right_same HYO.out HZO.out hE hF
      have HSS : Hid (∀ W, Kept (fun _ => False) w W → Calls Try.prog 27 #[.slice lo nl lc, .slice mo nm mc] W fun e w' => e = .returned (.bool (sameI ys zs)) ∧ ∃ n, w' = W.drewN n) := fun W hW => same_any _ _ ys zs W (by rw [HNL.out]; exact HL.out.kept hW (fun _ _ f => f)) (by rw [HNM.out]; exact HM.out.kept hW (fun _ _ f => f)) HYL.out HZL.out
      obtain ⟨sa, hsa⟩ : ∃ s, s = str (encB ys) := ⟨_, rfl⟩
      obtain ⟨sb, hsb⟩ : ∃ s, s = str (encB zs) := ⟨_, rfl⟩
      rw [← hsa] at hs1 hrs
      rw [← hsb] at hs2 hrs
      generalize sameI ys zs = SB at *
      have HSA := hid_of hsa
      have HSB := hid_of hsb
      clear hsa hsb
      go_upto_region 10 with fail
      go_quiet (first | (go_at_call 27; exact Calls.quiet_of (HSS.out _ (kept_drewN HK5.out _))))
      have HK6 := hid_of (kept_drewN HK5.out nq)
      have HOP6 := hid_of ((kept_drewN (Kept.refl (fun _ => False) w5) nq).ownsRow HOP5.out (fun _ _ f => f))
      have HOQ6 := hid_of ((kept_drewN (Kept.refl (fun _ => False) w5) nq).ownsRow HOQ5.out (fun _ _ f => f))
      have HP6 : Hid (0 < (w5.drewN nq).heap.size) := HP5.out
      try rw [hrs]
      try rw [show (SB != SB) = false by simp]
      clear hs1 hs2 HSS HK5 HOP5 HOQ5 HP5 hrs
      generalize w5.drewN nq = w6 at *
      have hkA : Kept (fun _ => False) w6 (w6.alloc (.cells #[] 52)) := (Kept.refl _ _).alloc _
      have hzl4 := (encE_zero hE).1
      have hzm4 := (encE_zero hF).1
      obtain ⟨ra, ca, wa, hra, hoa, hka⟩ := app_rows (w6.alloc (.cells #[] 52)) _ w6.heap.size [] lo lc ys (own_none w6 w6.heap.size (Nat.le_refl _)) (HL.out.kept (HK6.out.trans hkA) (fun _ _ f => f)) (by simp) (by simp; omega) HLO.out
      rw [List.nil_append] at hra hoa
      have hkA2 := hkA.step hka (fun i hi e => by have h1 : w6.heap.size = i := by simpa [Value.ownBlock] using e
                                                  omega)
      obtain ⟨rb, cb, wb, hrb, hob, hkb⟩ := app_rows wa _ w6.heap.size ys mo mc zs hoa (HM.out.kept (HK6.out.trans hkA2) (fun _ _ f => f)) hkA2.size (by omega) HMO.out
      have hkA3 := hkA2.step hkb (fun i hi e => by have := (hoa.lt i e).1; omega)
      have HK7 := hid_of (HK6.out.trans hkA3)
      have HOP7 := hid_of (hkA3.ownsRow HOP6.out (fun _ _ f => f))
      have HOQ7 := hid_of (hkA3.ownsRow HOQ6.out (fun _ _ f => f))
      have HP7 : Hid (0 < wb.heap.size) := Nat.lt_of_lt_of_le HP6.out hkA3.size
      obtain ⟨nt, hnt⟩ : ∃ n, n = (ys ++ zs).length := ⟨_, rfl⟩
      have hEB := encode_any _ (ys ++ zs) wb (rowI_own hob) (fun y hy => by
        rcases List.mem_append.1 hy with h | h
        · exact HYO.out y h
        · exact HZO.out y h) (by rw [List.length_append]; omega)
      rw [← HNL.out] at hra hrb
      rw [← HNM.out] at hrb
      rw [← hnt] at hrb hEB
      have hntl : nt ≤ 8192 := by rw [hnt, List.length_append]; omega
      have HEB := hid_of hEB
      have HNT := hid_of hnt
      clear hkA hkA2 hkA3 hka hkb hoa hob hnt hEB HK6 HOP6 HOQ6 HP6
      go_wp2_with (first | (at_builtin; refine wp_app2 rfl (.tmp 60) (.tmp 61) 34 34 rfl _ _ rfl rfl _ wa hra ?_) | (at_builtin; refine wp_app2 rfl (.tmp 62) (.tmp 63) 34 34 rfl _ _ rfl rfl _ wb hrb ?_))
      clear hra hrb
      refine HEB.out.mono ?_
      rintro e w8 ⟨hk8, he8⟩
      have HK8 := hid_of (HK7.out.trans hk8)
      have HOP8 := hid_of (hk8.ownsRow HOP7.out (fun _ _ f => f))
      have HOQ8 := hid_of (hk8.ownsRow HOQ7.out (fun _ _ f => f))
      have HP8 : Hid (0 < w8.heap.size) := Nat.lt_of_lt_of_le HP7.out hk8.size
      clear hk8 HK7 HOP7 HOQ7 HP7 HEB
      by_cases hsm : nt ≤ 4096
      · have hntI : (nt : Int) ≤ 4096 := by omega
        obtain ⟨hb1, hb2⟩ := right_both hE hF (by rw [← HNT.out]; exact hsm)
        rw [if_pos hb1, hb2] at he8
        obtain ⟨xv8, rfl, hox8⟩ := he8
        have hs8 := conv_str w8 _ _ (isB_own hox8)
        have hs1 := conv_str w8 _ _ (isB_own HOP8.out)
        have hs2 := conv_str w8 _ _ (isB_own HOQ8.out)
        rw [str_append, ← HSA.out, ← HSB.out] at hs8
        rw [← HSA.out] at hs1
        rw [← HSB.out] at hs2
        obtain ⟨xo8, xc8, hxv8⟩ := ownsRow_shape hox8
        obtain ⟨xl8, hxl8⟩ : ∃ n, n = (encB ys ++ encB zs).length := ⟨_, rfl⟩
        rw [← hxl8] at hxv8
        subst hxv8
        have hcc : ((sa ++ sb).toList == (sa ++ sb).toList) = true := by simp
        have hz1 : sa.size ≤ 40960 := by rw [HSA.out, str_size]; exact (right_bytes HYO.out hE).2
        have hz2 : sb.size ≤ 40960 := by rw [HSB.out, str_size]; exact (right_bytes HZO.out hF).2
        have hz3 : (sa.size : Int) + (sb.size : Int) ≤ 9223372036854775807 := by omega
        clear hb1 hb2 hox8 hsm hxl8
        obtain ⟨bg, hbg, hbr⟩ := HBR.out.at HK8.out HP8.out
        have hDB := decode_x bg bo bc xs w8 hbr hbg HB.out
        rw [← HNB.out] at hDB
        have HDB := hid_of hDB
        clear hbg hbr hDB
        go_wp2_with fail
        refine HDB.out.mono ?_
        rintro e t1 ⟨hkt1, het⟩
        cases hd : decD xs with
        | error f =>
          rw [hd] at het
          obtain rfl := het
          have hf0 : f ≠ 0 := decD_fault HB.out hd
          have hfb : (f != 0) = true := by simpa using hf0
          have HKT := hid_of (HK8.out.trans hkt1)
          clear hkt1 hd HDB
          go_wp2
          go_ret
          exact ⟨rfl, HKT.out⟩
        | ok ts =>
          rw [hd] at het
          obtain ⟨⟨tv, rfl, hot⟩, hto⟩ := het
          obtain ⟨hte, htb⟩ := back_enc HB.out hd
          have htl := decD_len hd
          obtain ⟨tn, htn⟩ : ∃ n, n = ts.length := ⟨_, rfl⟩
          obtain ⟨tto, tc, htv⟩ := ownsRow_shape hot
          have hET := encode_any _ ts t1 (rowI_own hot) hto (by omega)
          subst htv
          rw [← htn] at hET htl ⊢
          have HKT := hid_of (HK8.out.trans hkt1)
          have HET := hid_of hET
          have HBT := hid_of (HBB.out.kept (HK8.out.trans hkt1) (fun _ _ f => f))
          clear hkt1 hd HDB hot hto htn hET
          go_wp2_with fail
          refine HET.out.mono ?_
          rintro e t2 ⟨hkt2, het2⟩
          rw [if_pos hte, htb] at het2
          obtain ⟨qv, rfl, hoq⟩ := het2
          have hc1 := conv_str t2 _ xs (isB_own hoq)
          have hc2 := conv_str t2 _ xs (HBT.out.kept hkt2 (fun _ _ f => f))
          rw [← HNB.out] at hc2
          obtain ⟨qo2, qc2, hqv⟩ := ownsRow_shape hoq
          rw [← HNB.out] at hqv
          subst hqv
          generalize str xs = sx at *
          have hss : (sx.toList == sx.toList) = true := by simp
          have HKT2 := hid_of (HKT.out.trans hkt2)
          clear hkt2 hoq HET HBT HKT hte htb htl
          go_wp2
          go_ret
          exact ⟨rfl, HKT2.out⟩
      · have hntI : (4096 : Int) < (nt : Int) := by omega
        have hb1 : encE (ys ++ zs) = 2 := if_pos (by rw [← HNT.out]; omega)
        rw [hb1, if_neg (by decide)] at he8
        obtain rfl := he8
        clear hb1 hsm
        obtain ⟨bg, hbg, hbr⟩ := HBR.out.at HK8.out HP8.out
        have hDB := decode_x bg bo bc xs w8 hbr hbg HB.out
        rw [← HNB.out] at hDB
        have HDB := hid_of hDB
        clear hbg hbr hDB
        go_wp2_with fail
        refine HDB.out.mono ?_
        rintro e t1 ⟨hkt1, het⟩
        cases hd : decD xs with
        | error f =>
          rw [hd] at het
          obtain rfl := het
          have hf0 : f ≠ 0 := decD_fault HB.out hd
          have hfb : (f != 0) = true := by simpa using hf0
          have HKT := hid_of (HK8.out.trans hkt1)
          clear hkt1 hd HDB
          go_wp2
          go_ret
          exact ⟨rfl, HKT.out⟩
        | ok ts =>
          rw [hd] at het
          obtain ⟨⟨tv, rfl, hot⟩, hto⟩ := het
          obtain ⟨hte, htb⟩ := back_enc HB.out hd
          have htl := decD_len hd
          obtain ⟨tn, htn⟩ : ∃ n, n = ts.length := ⟨_, rfl⟩
          obtain ⟨tto, tc, htv⟩ := ownsRow_shape hot
          have hET := encode_any _ ts t1 (rowI_own hot) hto (by omega)
          subst htv
          rw [← htn] at hET htl ⊢
          have HKT := hid_of (HK8.out.trans hkt1)
          have HET := hid_of hET
          have HBT := hid_of (HBB.out.kept (HK8.out.trans hkt1) (fun _ _ f => f))
          clear hkt1 hd HDB hot hto htn hET
          go_wp2_with fail
          refine HET.out.mono ?_
          rintro e t2 ⟨hkt2, het2⟩
          rw [if_pos hte, htb] at het2
          obtain ⟨qv, rfl, hoq⟩ := het2
          have hc1 := conv_str t2 _ xs (isB_own hoq)
          have hc2 := conv_str t2 _ xs (HBT.out.kept hkt2 (fun _ _ f => f))
          rw [← HNB.out] at hc2
          obtain ⟨qo2, qc2, hqv⟩ := ownsRow_shape hoq
          rw [← HNB.out] at hqv
          subst hqv
          generalize str xs = sx at *
          have hss : (sx.toList == sx.toList) = true := by simp
          have HKT2 := hid_of (HKT.out.trans hkt2)
          clear hkt2 hoq HET HBT HKT hte htb htl
          go_wp2
          go_ret
          exact ⟨rfl, HKT2.out⟩
    · obtain ⟨pv, he, hop⟩ : ∃ pv, e = .returned (.tuple #[pv, .int .i64 0]) ∧ w2.ownsRow w1.heap.size 5 1 pv (encB ys).length ((encB ys).map (Value.int .u8)) := by
        have := he2.2
        rw [if_pos hE] at this
        exact this
      obtain ⟨po, pc, hpv⟩ := ownsRow_shape hop
      obtain ⟨pl, hpl⟩ : ∃ n, n = (encB ys).length := ⟨_, rfl⟩
      have HPL := hid_of hpl
      have hPS : pl ≤ 40960 := by rw [hpl]; exact (right_bytes HYO.out hE).2
      rw [← hpl] at hpv hop
      subst hpv
      subst he
      have HOP2 := hid_of hop
      clear hop he2 hpl
      go_wp2_with fail
      refine HE2.out.mono ?_
      rintro e w3 he3
      have he : e = .returned (.tuple #[.slice none 0 0, .int .i64 (encE zs)]) := by
        have := he3.2
        rw [if_neg hF] at this
        exact this
      subst he
      have hk3 := he3.1
      have HK3 := hid_of (HK2.out.trans hk3)
      have HOP3 := hid_of (hk3.ownsRow HOP2.out (fun _ _ f => f))
      have HP3 : Hid (0 < w3.heap.size) := Nat.lt_of_lt_of_le HP2.out hk3.size
      obtain ⟨fz, hfz⟩ : ∃ f, f = encE zs := ⟨_, rfl⟩
      rw [← hfz] at hF ⊢
      have hFb : (fz == 0) = false := by simpa using hF
      clear he3 hk3 HE2 HK2 HOP2 HP2 hfz
      obtain ⟨pg, hpg, hpr⟩ := isR_own HOP3.out HP3.out
      have hDP := decode_x pg po pc (encB ys) w3 (by rw [← HPL.out]; exact hpr) hpg (right_bytes HYO.out hE).1
      rw [← HPL.out] at hDP
      have HDP := hid_of hDP
      clear hpg hpr hDP
      go_wp2_with fail
      refine HDP.out.mono ?_
      rintro e w4 ⟨hk4, he4⟩
      rw [right_dec HYO.out hE] at he4
      obtain ⟨⟨xv, rfl, hox⟩, -⟩ := he4
      have hSP := same_any xv (.slice lo nl lc) ys ys w4 (rowI_own hox) (by rw [HNL.out]; exact HL.out.kept (HK3.out.trans hk4) (fun _ _ f => f)) HYL.out HYL.out
      rw [sameI_refl] at hSP
      obtain ⟨xo, xc, hxv⟩ := ownsRow_shape hox
      rw [← HNL.out] at hxv
      subst hxv
      have HSP := hid_of hSP
      have HK4 := hid_of (HK3.out.trans hk4)
      have HOP4 := hid_of (hk4.ownsRow HOP3.out (fun _ _ f => f))
      have HP4 : Hid (0 < w4.heap.size) := Nat.lt_of_lt_of_le HP3.out hk4.size
      clear hk4 hox hSP HDP HK3 HOP3 HP3
      go_wp2_with fail
      refine HSP.out.mono ?_
      rintro e w5 ⟨rfl, d5, rfl⟩
      have HK5 := hid_of (kept_drewN HK4.out d5)
      have HOP5 := hid_of ((kept_drewN (Kept.refl (fun _ => False) w4) d5).ownsRow HOP4.out (fun _ _ f => f))
      have HP5 : Hid (0 < (w4.drewN d5).heap.size) := HP4.out
      clear HSP HK4 HOP4 HP4
      generalize w4.drewN d5 = w5 at *
      obtain ⟨bg, hbg, hbr⟩ := HBR.out.at HK5.out HP5.out
      have hDB := decode_x bg bo bc xs w5 hbr hbg HB.out
      rw [← HNB.out] at hDB
      have HDB := hid_of hDB
      clear hbg hbr hDB
      go_wp2_with fail
      refine HDB.out.mono ?_
      rintro e t1 ⟨hkt1, het⟩
      cases hd : decD xs with
      | error f =>
        rw [hd] at het
        obtain rfl := het
        have hf0 : f ≠ 0 := decD_fault HB.out hd
        have hfb : (f != 0) = true := by simpa using hf0
        have HKT := hid_of (HK5.out.trans hkt1)
        clear hkt1 hd HDB
        go_wp2
        go_ret
        exact ⟨rfl, HKT.out⟩
      | ok ts =>
        rw [hd] at het
        obtain ⟨⟨tv, rfl, hot⟩, hto⟩ := het
        obtain ⟨hte, htb⟩ := back_enc HB.out hd
        have htl := decD_len hd
        obtain ⟨tn, htn⟩ : ∃ n, n = ts.length := ⟨_, rfl⟩
        obtain ⟨tto, tc, htv⟩ := ownsRow_shape hot
        have hET := encode_any _ ts t1 (rowI_own hot) hto (by omega)
        subst htv
        rw [← htn] at hET htl ⊢
        have HKT := hid_of (HK5.out.trans hkt1)
        have HET := hid_of hET
        have HBT := hid_of (HBB.out.kept (HK5.out.trans hkt1) (fun _ _ f => f))
        clear hkt1 hd HDB hot hto htn hET
        go_wp2_with fail
        refine HET.out.mono ?_
        rintro e t2 ⟨hkt2, het2⟩
        rw [if_pos hte, htb] at het2
        obtain ⟨qv, rfl, hoq⟩ := het2
        have hc1 := conv_str t2 _ xs (isB_own hoq)
        have hc2 := conv_str t2 _ xs (HBT.out.kept hkt2 (fun _ _ f => f))
        rw [← HNB.out] at hc2
        obtain ⟨qo2, qc2, hqv⟩ := ownsRow_shape hoq
        rw [← HNB.out] at hqv
        subst hqv
        generalize str xs = sx at *
        have hss : (sx.toList == sx.toList) = true := by simp
        have HKT2 := hid_of (HKT.out.trans hkt2)
        clear hkt2 hoq HET HBT HKT hte htb htl
        go_wp2
        go_ret
        exact ⟨rfl, HKT2.out⟩
  · have he : e = .returned (.tuple #[.slice none 0 0, .int .i64 (encE ys)]) := by
      have := he2.2
      rw [if_neg hE] at this
      exact this
    subst he
    obtain ⟨ez, hez⟩ : ∃ f, f = encE ys := ⟨_, rfl⟩
    rw [← hez] at hE ⊢
    have hEb : (ez == 0) = false := by simpa using hE
    clear he2 hez
    go_wp2_with fail
    refine HE2.out.mono ?_
    rintro e w3 he3
    obtain ⟨qv, rfl, hbq, -, hk3⟩ := he3.out
    obtain ⟨fz, hfz⟩ : ∃ f, f = encE zs := ⟨_, rfl⟩
    rw [← hfz]
    obtain ⟨qo, qc, hqv⟩ := hbq.shape
    obtain ⟨ql, hql⟩ : ∃ n, n = (if encE zs = 0 then encB zs else []).length := ⟨_, rfl⟩
    rw [← hql] at hqv
    subst hqv
    have HK3 := hid_of (HK2.out.trans hk3)
    have HP3 : Hid (0 < w3.heap.size) := Nat.lt_of_lt_of_le HP2.out hk3.size
    clear he3 hk3 HE2 HK2 HP2 hfz hbq hql
    obtain ⟨bg, hbg, hbr⟩ := HBR.out.at HK3.out HP3.out
    have hDB := decode_x bg bo bc xs w3 hbr hbg HB.out
    rw [← HNB.out] at hDB
    have HDB := hid_of hDB
    clear hbg hbr hDB
    go_wp2_with fail
    refine HDB.out.mono ?_
    rintro e t1 ⟨hkt1, het⟩
    cases hd : decD xs with
    | error f =>
      rw [hd] at het
      obtain rfl := het
      have hf0 : f ≠ 0 := decD_fault HB.out hd
      have hfb : (f != 0) = true := by simpa using hf0
      have HKT := hid_of (HK3.out.trans hkt1)
      clear hkt1 hd HDB
      go_wp2
      go_ret
      exact ⟨rfl, HKT.out⟩
    | ok ts =>
      rw [hd] at het
      obtain ⟨⟨tv, rfl, hot⟩, hto⟩ := het
      obtain ⟨hte, htb⟩ := back_enc HB.out hd
      have htl := decD_len hd
      obtain ⟨tn, htn⟩ : ∃ n, n = ts.length := ⟨_, rfl⟩
      obtain ⟨tto, tc, htv⟩ := ownsRow_shape hot
      have hET := encode_any _ ts t1 (rowI_own hot) hto (by omega)
      subst htv
      rw [← htn] at hET htl ⊢
      have HKT := hid_of (HK3.out.trans hkt1)
      have HET := hid_of hET
      have HBT := hid_of (HBB.out.kept (HK3.out.trans hkt1) (fun _ _ f => f))
      clear hkt1 hd HDB hot hto htn hET
      go_wp2_with fail
      refine HET.out.mono ?_
      rintro e t2 ⟨hkt2, het2⟩
      rw [if_pos hte, htb] at het2
      obtain ⟨qv, rfl, hoq⟩ := het2
      have hc1 := conv_str t2 _ xs (isB_own hoq)
      have hc2 := conv_str t2 _ xs (HBT.out.kept hkt2 (fun _ _ f => f))
      rw [← HNB.out] at hc2
      obtain ⟨qo2, qc2, hqv⟩ := ownsRow_shape hoq
      rw [← HNB.out] at hqv
      subst hqv
      generalize str xs = sx at *
      have hss : (sx.toList == sx.toList) = true := by simp
      have HKT2 := hid_of (HKT.out.trans hkt2)
      clear hkt2 hoq HET HBT HKT hte htb htl
      go_wp2
      go_ret
      exact ⟨rfl, HKT2.out⟩
end Go.Proofs.Ytindhkjcifghhaa

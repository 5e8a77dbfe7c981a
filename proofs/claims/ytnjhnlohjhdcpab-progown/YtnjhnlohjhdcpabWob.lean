/-
  ProgOwn: the walk where Encode tells a fault .
-/
import Derived.Test.YtnjhnlohjhdcpabSpo
import Derived.Test.YtnjhnlohjhdcpabBp
namespace Go.Proofs.Ytnjhnlohjhdcpab
open Go.ChangeShapes Go.WideShapes Go.ChangeAt Go.RowKit Go.Deep
set_option linter.unusedVariables false
set_option linter.unusedSimpArgs false
set_option maxRecDepth 100000

set_option maxHeartbeats 32000000 in
theorem own_bad (u : Value) (p : PG) (w : World) (B : Nat) (ha : PgIs w B u p) (hB : B ≤ w.heap.size) (hoa : p.Ok) (hE : ¬ encPE p = 0) : Calls Try.prog 3 #[u] w fun e w' => e = .returned (.bool true) ∧ Kept (fun _ => False) w w' := by
  have HEZ := hid_of hE
  clear hE
  have hag := ha
  obtain ⟨dv, fv, rfl, hd, hdl, hf⟩ := ha
  obtain ⟨pda, pdc, rfl⟩ := hd.shape
  obtain ⟨pfa, pfc, rfl⟩ := hf.shape
  obtain ⟨pnd, hpnd⟩ : ∃ n, n = p.data.length := ⟨_, rfl⟩
  obtain ⟨pnf, hpnf⟩ : ∃ n, n = p.fns.length := ⟨_, rfl⟩
  obtain ⟨mp, hmp⟩ : ∃ m, m = p.mem := ⟨_, rfl⟩
  rw [← hmp, ← hpnd, ← hpnf] at hag ⊢
  have hkA : Kept (fun _ => False) w (w.alloc (.cells #[.int .i64 mp, .slice pda pnd pdc, .slice pfa pnf pfc] 25)) := (Kept.refl _ _).alloc _
  have hbA := heap_alloc_new w (.cells #[.int .i64 mp, .slice pda pnd pdc, .slice pfa pnf pfc] 25)
  have HGA0 := hid_of (hag.kept hkA (fun _ _ f => f))
  have HBA0 := hid_of hbA
  have HK0 := hid_of hkA
  have HOA := hid_of hoa
  have HB0 := hid_of hB
  have HND := hid_of hpnd
  have HNF := hid_of hpnf
  have HMP := hid_of hmp
  clear hag hd hdl hf hkA hbA hB hpnd hpnf hmp hoa
  go_enter Try.func3, Try.ntmps3
  go_upto_region 1 with fail
  generalize w.alloc (.cells #[.int .i64 mp, .slice pda pnd pdc, .slice pfa pnf pfc] 25) = w0 at *
  obtain ⟨ga, hga⟩ : ∃ g, g = w.heap.size := ⟨_, rfl⟩
  rw [← hga] at HBA0 ⊢
  have HGAE := hid_of hga
  clear hga
  go_wp2_with fail
  refine (known_any w0).mono ?_
  rintro e w1 ⟨rfl, hk1⟩
  have HBA1 := hid_of (box_kept hk1 HBA0.out (fun f => f))
  have HGA1 := hid_of (HGA0.out.kept hk1 (fun _ _ f => f))
  have HK1 := hid_of (HK0.out.trans hk1)
  clear hk1 HBA0 HGA0 HK0
  have c0 := cell_block _ ga 0 _ _ _ HBA1.out
  have c1 := cell_block _ ga 1 _ _ _ HBA1.out
  have c2 := cell_block _ ga 2 _ _ _ HBA1.out
  have HEN := hid_of (encode_p _ p w1 B HGA1.out (Nat.le_trans HB0.out HK1.out.size) HOA.out)
  go_wp2_with fail
  refine HEN.out.mono ?_
  rintro e w2 ⟨hk2, he⟩
  have HBA := hid_of (box_kept hk2 HBA1.out (fun f => f))
  have HGA := hid_of (HGA1.out.kept hk2 (fun _ _ f => f))
  have HK := hid_of (HK1.out.trans hk2)
  · have hE := HEZ.out
    rw [if_neg hE] at he
    subst he
    have hb1 : (encPE p == 0) = false := by simp; exact hE
    have hb2 : (encPE p != 0) = true := by simp; exact hE
    clear HEN hk2 HBA1 HGA1 HK1 c0 c1 c2 hE HEZ
    generalize encPE p = er at *
    have HTW := hid_of (twin_p _ p w2 B HGA.out (Nat.le_trans HB0.out HK.out.size) HOA.out)
    have c0 := cell_block _ ga 0 _ _ _ HBA.out
    have c1 := cell_block _ ga 1 _ _ _ HBA.out
    have c2 := cell_block _ ga 2 _ _ _ HBA.out
    go_wp2_with fail
    refine HTW.out.mono ?_
    rintro e w3 ⟨⟨tdv, tfv, tcv, rfl, hop⟩, hkt⟩
    obtain ⟨tda, tdc, hds⟩ := ownsRow_shape hop.dat
    obtain ⟨tfa, tfc, hfs⟩ := ownsRow_shape hop.fns.row
    rw [← HND.out] at hds
    rw [← HNF.out] at hfs
    rw [← HMP.out]
    subst hds
    subst hfs
    have hkM : Kept (fun _ => False) w3 (w3.alloc (.cells #[.int .i64 mp, .slice tda pnd tdc, .slice tfa pnf tfc] 25)) := (Kept.refl _ _).alloc _
    have HBT := hid_of (heap_alloc_new w3 (.cells #[.int .i64 mp, .slice tda pnd tdc, .slice tfa pnf tfc] 25))
    have HOT := hid_of (hop.kept hkM (fun _ _ f => f))
    have HLT : Hid ((∀ b, (Value.slice tda pnd tdc).ownBlock = some b → b < w3.heap.size) ∧ (∀ b, (Value.slice tfa pnf tfc).ownBlock = some b → b < w3.heap.size) ∧ ∀ c ∈ tcv, ∀ b, c.ownBlock = some b → b < w3.heap.size) := ⟨fun b hb => (hop.dat.lt b hb).2, fun b hb => (hop.fns.row.lt b hb).2, fun c hc b hb => by
      obtain ⟨i, F, _, _, ho⟩ := hop.fns.mem hc
      exact (ho.lt b hb).2⟩
    have HGB : Hid (ga < w2.heap.size) := (Array.getElem?_eq_some_iff.1 HBA.out).1
    have hk4 := hkt.trans hkM
    have HBA4 := hid_of (box_kept hk4 HBA.out (fun f => f))
    have HGA4 := hid_of (HGA.out.kept hk4 (fun _ _ f => f))
    have HK4 := hid_of (HK.out.trans hk4)
    have HW2 : Hid (w.heap.size ≤ w2.heap.size ∧ w2.heap.size ≤ w3.heap.size) := ⟨HK.out.size, hkt.size⟩
    clear hop hkt hkM hk4 HTW HBA HGA HK c0 c1 c2
    go_upto_region 6 with fail
    generalize hw4 : w3.alloc (.cells #[.int .i64 mp, .slice tda pnd tdc, .slice tfa pnf tfc] 25) = w4 at *
    have HS4 : Hid (w3.heap.size < w4.heap.size) := (Array.getElem?_eq_some_iff.1 HBT.out).1
    obtain ⟨top, htop⟩ : ∃ g, g = w3.heap.size := ⟨_, rfl⟩
    rw [← htop] at HBT HW2 HS4 HLT ⊢
    clear hw4 htop
    have HBA := HBA4
    have HGA := HGA4
    have HK := HK4
    clear HBA4 HGA4 HK4
    have HTW := hid_of (twin_p _ p w4 B HGA.out (Nat.le_trans HB0.out HK.out.size) HOA.out)
    have c0 := cell_block _ ga 0 _ _ _ HBA.out
    have c1 := cell_block _ ga 1 _ _ _ HBA.out
    have c2 := cell_block _ ga 2 _ _ _ HBA.out
    go_wp2_with fail
    refine HTW.out.mono ?_
    rintro e w5 ⟨⟨sdv, sfv, scv, rfl, hop⟩, hkt⟩
    obtain ⟨sda, sdc, hds⟩ := ownsRow_shape hop.dat
    obtain ⟨sfa, sfc, hfs⟩ := ownsRow_shape hop.fns.row
    rw [← HND.out] at hds
    rw [← HNF.out] at hfs
    rw [← HMP.out]
    subst hds
    subst hfs
    have hkM : Kept (fun _ => False) w5 (w5.alloc (.cells #[.int .i64 mp, .slice sda pnd sdc, .slice sfa pnf sfc] 25)) := (Kept.refl _ _).alloc _
    have HBS := hid_of (heap_alloc_new w5 (.cells #[.int .i64 mp, .slice sda pnd sdc, .slice sfa pnf sfc] 25))
    have HOS := hid_of (hop.kept hkM (fun _ _ f => f))
    have hk6 := hkt.trans hkM
    have HTS : Hid (top < w5.heap.size) := Nat.lt_of_lt_of_le HS4.out hkt.size
    have HBA6 := hid_of (box_kept hk6 HBA.out (fun f => f))
    have HGA6 := hid_of (HGA.out.kept hk6 (fun _ _ f => f))
    have HK6 := hid_of (HK.out.trans hk6)
    have HBT6 := hid_of (box_kept hk6 HBT.out (fun f => f))
    have HOT6 := hid_of (HOT.out.kept hk6 (fun _ _ f => f))
    have HW46 := hid_of hk6.size
    clear hop hkt hkM hk6 HTW HBA HGA HK HBT HOT c0 c1 c2
    go_upto_region 7 with fail
    generalize w5.alloc (.cells #[.int .i64 mp, .slice sda pnd sdc, .slice sfa pnf sfc] 25) = w6 at *
    generalize w5.heap.size = gs at *
    have hpt : ∀ W, Kept (fun _ => False) w6 W → PgIs W W.heap.size (.agg #[.int .i64 mp, .slice tda pnd tdc, .slice tfa pnf tfc]) p := fun W hW => by
      have := (HOT6.out.kept hW (fun _ _ f => f)).pg
      rw [← HMP.out] at this
      exact this
    have hps : ∀ W, Kept (fun _ => False) w6 W → PgIs W W.heap.size (.agg #[.int .i64 mp, .slice sda pnd sdc, .slice sfa pnf sfc]) p := fun W hW => by
      have := (HOS.out.kept hW (fun _ _ f => f)).pg
      rw [← HMP.out] at this
      exact this
    have hpp : ∀ W, Kept (fun _ => False) w6 W → PgIs W W.heap.size (.agg #[.int .i64 mp, .slice pda pnd pdc, .slice pfa pnf pfc]) p := fun W hW => (HGA6.out.kept hW (fun _ _ f => f)).up (Nat.le_trans HB0.out (HK6.out.trans hW).size)
    have HPT := hid_of hpt
    have HPS := hid_of hps
    have HPP := hid_of hpp
    clear hpt hps hpp
    have hSM := rsame_any _ _ p p w6 _ (HPT.out w6 (Kept.refl _ _)) (HPP.out w6 (Kept.refl _ _)) (Nat.le_refl _) HOA.out HOA.out
    rw [sameP_refl] at hSM
    have HSM := hid_of hSM
    clear hSM
    have c0 := cell_block _ ga 0 _ _ _ HBA6.out
    have c1 := cell_block _ ga 1 _ _ _ HBA6.out
    have c2 := cell_block _ ga 2 _ _ _ HBA6.out
    have d0 := cell_block _ top 0 _ _ _ HBT6.out
    have d1 := cell_block _ top 1 _ _ _ HBT6.out
    have d2 := cell_block _ top 2 _ _ _ HBT6.out
    have f0 := cell_block _ gs 0 _ _ _ HBS.out
    have f1 := cell_block _ gs 1 _ _ _ HBS.out
    have f2 := cell_block _ gs 2 _ _ _ HBS.out
    go_wp2_with fail
    refine HSM.out.mono ?_
    rintro e w7 ⟨rfl, hk7⟩
    have hSM := rsame_any _ _ p p w7 _ (HPS.out w7 hk7) (HPP.out w7 hk7) (Nat.le_refl _) HOA.out HOA.out
    rw [sameP_refl] at hSM
    have HSM2 := hid_of hSM
    have e0 := hk7.cell c0 (fun f => f)
    have e1 := hk7.cell c1 (fun f => f)
    have e2 := hk7.cell c2 (fun f => f)
    have h0 := hk7.cell f0 (fun f => f)
    have h1 := hk7.cell f1 (fun f => f)
    have h2 := hk7.cell f2 (fun f => f)
    clear hSM HSM c0 c1 c2 d0 d1 d2 f0 f1 f2
    go_wp2_with fail
    refine HSM2.out.mono ?_
    rintro e w8 ⟨rfl, hk8⟩
    have hk68 := hk7.trans hk8
    have HBA := hid_of (box_kept hk68 HBA6.out (fun f => f))
    have HGA := hid_of (HGA6.out.kept hk68 (fun _ _ f => f))
    have HK := hid_of (HK6.out.trans hk68)
    have HK68 := hid_of hk68
    clear HSM2 e0 e1 e2 h0 h1 h2 hk7 hk8 hk68 HPT HPP HPS
    have HTW := hid_of (rtwin_p _ p w8 B HGA.out (Nat.le_trans HB0.out HK.out.size) HOA.out)
    have c0 := cell_block _ ga 0 _ _ _ HBA.out
    have c1 := cell_block _ ga 1 _ _ _ HBA.out
    have c2 := cell_block _ ga 2 _ _ _ HBA.out
    go_wp2_with fail
    refine HTW.out.mono ?_
    rintro e w9 ⟨⟨rdv, rfv, rcv, rfl, hop⟩, hkt⟩
    obtain ⟨rda, rdc, hds⟩ := ownsRow_shape hop.dat
    obtain ⟨rfa, rfc, hfs⟩ := ownsRow_shape hop.fns.row
    rw [← HND.out] at hds
    rw [← HNF.out] at hfs
    rw [← HMP.out]
    subst hds
    subst hfs
    have hkM : Kept (fun _ => False) w9 (w9.alloc (.cells #[.int .i64 mp, .slice rda pnd rdc, .slice rfa pnf rfc] 25)) := (Kept.refl _ _).alloc _
    have HBR := hid_of (heap_alloc_new w9 (.cells #[.int .i64 mp, .slice rda pnd rdc, .slice rfa pnf rfc] 25))
    have HOR := hid_of (hop.kept hkM (fun _ _ f => f))
    have hk10 := hkt.trans hkM
    have hk610 := HK68.out.trans hk10
    have HBA9 := hid_of (box_kept hk10 HBA.out (fun f => f))
    have HGA9 := hid_of (HGA.out.kept hk10 (fun _ _ f => f))
    have HK9 := hid_of (HK.out.trans hk10)
    have HBT9 := hid_of (box_kept hk610 HBT6.out (fun f => f))
    have HOT9 := hid_of (HOT6.out.kept hk610 (fun _ _ f => f))
    have HBS9 := hid_of (box_kept hk610 HBS.out (fun f => f))
    have HOS9 := hid_of (HOS.out.kept hk610 (fun _ _ f => f))
    have HTR : Hid (top < w9.heap.size ∧ w4.heap.size ≤ w8.heap.size) := by
      have h1 := (Array.getElem?_eq_some_iff.1 HBT6.out).1
      have h3 := HK68.out.size
      have h4 := hkt.size
      have h5 := HW46.out
      exact ⟨by omega, by omega⟩
    clear hop hkt hkM hk10 hk610 HTW HBA HGA HK HBT6 HOT6 HBS HOS c0 c1 c2 HBA6 HGA6 HK6 HK68
    go_upto_region 10 with fail
    generalize w9.alloc (.cells #[.int .i64 mp, .slice rda pnd rdc, .slice rfa pnf rfc] 25) = w10 at *
    generalize w9.heap.size = gr at *
    have HSP := hid_of (spoil_p w2.heap.size top mp tda pnd tdc tfa pnf tfc tcv p w10 HOT9.out HOA.out ⟨HND.out, HNF.out⟩ HLT.out.1 HLT.out.2.1 HLT.out.2.2 (Nat.le_of_lt (Array.getElem?_eq_some_iff.1 HBT9.out).1))
    have d0 := cell_block _ top 0 _ _ _ HBT9.out
    have d1 := cell_block _ top 1 _ _ _ HBT9.out
    have d2 := cell_block _ top 2 _ _ _ HBT9.out
    go_wp2_with fail
    refine HSP.out.mono ?_
    rintro e w11 ⟨⟨v11, rfl⟩, hk11⟩
    have HB11 := hid_of (box_kept hk11 HBA9.out (fun f => by have := HGB.out; omega))
    have HR11 := hid_of (box_kept hk11 HBR.out (fun f => by have := HTR.out; omega))
    have HS11 := hid_of (box_kept hk11 HBS9.out (fun f => by have := HTS.out; omega))
    have HGP := hid_of ((HGA9.out.kept hk11 (fun q hq f => by have := HB0.out; have := HW2.out; omega)).up (Nat.le_trans (Nat.le_trans HB0.out HK9.out.size) hk11.size))
    have hrr := (HOR.out.kept hk11 (fun q hq f => by have := HTR.out; have := HS4.out; omega)).pg
    have hss := (HOS9.out.kept hk11 (fun q hq f => by have := HS4.out; omega)).pg
    rw [← HMP.out] at hrr hss
    have HPR := hid_of hrr
    have HPS := hid_of hss
    have HK11 := hid_of (HK9.out.step hk11 (fun i hi f => by have := HW2.out; omega))
    have hSM := rsame_any _ _ p p w11 _ HGP.out HPR.out (Nat.le_refl _) HOA.out HOA.out
    rw [sameP_refl] at hSM
    have HSM := hid_of hSM
    clear hrr hss hSM HSP hk11 HBA9 HBR HBS9 HGA9 HOR HOS9 HK9 HOT9 HBT9 d0 d1 d2
    have c0 := cell_block _ ga 0 _ _ _ HB11.out
    have c1 := cell_block _ ga 1 _ _ _ HB11.out
    have c2 := cell_block _ ga 2 _ _ _ HB11.out
    have d0 := cell_block _ gr 0 _ _ _ HR11.out
    have d1 := cell_block _ gr 1 _ _ _ HR11.out
    have d2 := cell_block _ gr 2 _ _ _ HR11.out
    have f0 := cell_block _ gs 0 _ _ _ HS11.out
    have f1 := cell_block _ gs 1 _ _ _ HS11.out
    have f2 := cell_block _ gs 2 _ _ _ HS11.out
    go_wp2_with fail
    refine HSM.out.mono ?_
    rintro e w12 ⟨rfl, hk12⟩
    have hSM := rsame_any _ _ p p w12 _ ((HPS.out.kept hk12 (fun _ _ f => f)).up hk12.size) ((HPR.out.kept hk12 (fun _ _ f => f)).up hk12.size) (Nat.le_refl _) HOA.out HOA.out
    rw [sameP_refl] at hSM
    have HSM2 := hid_of hSM
    have r0 := hk12.cell d0 (fun f => f)
    have r1 := hk12.cell d1 (fun f => f)
    have r2 := hk12.cell d2 (fun f => f)
    have s0 := hk12.cell f0 (fun f => f)
    have s1 := hk12.cell f1 (fun f => f)
    have s2 := hk12.cell f2 (fun f => f)
    have HK12 := hid_of (HK11.out.trans hk12)
    clear hSM HSM c0 c1 c2 d0 d1 d2 f0 f1 f2 hk12
    go_wp2_with fail
    refine HSM2.out.mono ?_
    rintro e w13 ⟨rfl, hk13⟩
    have HK13 := hid_of (HK12.out.trans hk13)
    clear HSM2 hk13 r0 r1 r2 s0 s1 s2
    go_wp2
    go_ret
    exact ⟨rfl, HK13.out⟩
end Go.Proofs.Ytnjhnlohjhdcpab

import Derived.Test.YtpfmhibdmehlcaaGreatDoorTBa49
namespace Go.Proofs.YtpfmhibdmehlcaaGreatDoor
open Go.RowKit
set_option linter.unusedVariables false
set_option linter.unusedSimpArgs false
set_option maxRecDepth 100000
structure BkI (w0 w : World) (gp gq : Nat) (c1 c2 : Array Value) (p q : PG) : Prop where
 x1 : w.heap[gp]? = some (.cells c1 25 (0, 0))
 x2 : w.heap[gq]? = some (.cells c2 25 (0, 0))
 p1 : PgIs w gp (.agg c1) p
 p2 : PgIs w gp (.agg c2) q
 k : Kept (fun _ => False) w0 w
 lo : gp ≤ w.heap.size
theorem BkI.step {w0 w w' : World} {gp gq : Nat} {c1 c2 : Array Value} {p q : PG} (h : BkI w0 w gp gq c1 c2 p q) (hk : Kept (fun _ => False) w w') : BkI w0 w' gp gq c1 c2 p q :=
 ⟨box_kept hk h.x1 id, box_kept hk h.x2 id, h.p1.kept hk (fun _ _ f => f), h.p2.kept hk (fun _ _ f => f), h.k.trans hk, Nat.le_trans h.lo hk.size⟩
def PgOut (p : PG) (w : World) (e : Ending) (w' : World) : Prop := Kept (fun _ => False) w w' ∧ ∃ m da dn dc fa fn fc, e = .returned (.tuple #[.agg #[.int .i64 m, .slice da dn dc, .slice fa fn fc], .nilIface]) ∧ PgIs w' w'.heap.size (.agg #[.int .i64 m, .slice da dn dc, .slice fa fn fc]) p
theorem parse_back (p : PG) (w : World) (hG : Gs w) (h : printE p = 0) (ho : p.Ok) : Calls Tryz.prog 10 #[.string (printS p)] w (PgOut p w) := by
 have hs := print_size p ho
 refine (parseG (printS p) (by omega) w hG).mono ?_
 intro e w' hpar
 obtain ⟨R, h1, h2⟩ := print_back h ho ho.data.1
 rw [h1] at hpar
 obtain ⟨hk, ⟨ln, er, g, hh, _⟩ | ⟨R', v, hh, _, _, _, rfl, hpg⟩⟩ := hpar
 ·cases hh
 ·cases hh
  rw [h2] at hpg
  obtain ⟨m, da, dn, dc, fa, fn, fc, rfl⟩ := pg_shapeK hpg
  exact ⟨hk, _, _, _, _, _, _, _, rfl, hpg⟩
theorem nnNil (w : World) : (binOp .neq 32 .nilIface .nilIface).run Tryz.prog w = .ok (.bool false) w := by kernel_rfl
theorem eeNil (w : World) : (binOp .eql 32 .nilIface .nilIface).run Tryz.prog w = .ok (.bool true) w := by kernel_rfl
theorem eqSt (s s2 : ByteArray) (w : World) : (binOp .eql 9 (.string s) (.string s2)).run Tryz.prog w = .ok (.bool (s.toList == s2.toList)) w := by
 go_simp
theorem toL_eq {s s2 : ByteArray} : (s.toList == s2.toList) = true ↔ s = s2 := by
 rw [beq_iff_eq]
 constructor
 ·intro e
  rw [ByteArray.toList_eq, ByteArray.toList_eq] at e
  exact ByteArray.ext (Array.ext' e)
 ·intro e
  rw [e]
set_option maxHeartbeats 32000000 in
theorem back_walk (vp vq : Value) (p q : PG) (D : ByteArray) (hD : D.size ≤ 9223372036854775807) (w : World) (hG : Gs w) (hp : PgIs w w.heap.size vp p) (hq : PgIs w w.heap.size vq q) (op : p.Ok) (oq : q.Ok) :
  Calls Tryz.prog 3 #[vp, vq, .string D] w fun e w' => e = .returned (.bool true) ∧ Kept (fun _ => False) w w' := by
 obtain ⟨pm, pda, pdn, pdc, pfa, pfn, pfc, rfl⟩ := pg_shapeK hp
 obtain ⟨qm, qda, qdn, qdc, qfa, qfn, qfc, rfl⟩ := pg_shapeK hq
 obtain ⟨W1, hW1⟩ := nmd ((w.alloc (.cells #[.int .i64 pm, .slice pda pdn pdc, .slice pfa pfn pfc] 25)).alloc (.cells #[.int .i64 qm, .slice qda qdn qdc, .slice qfa qfn qfc] 25))
 obtain ⟨k1, x1, x2⟩ := allocs2 _ _ _ _ _ _ hW1
 have HKN := hid_of (known_all W1 (hG.same k1))
 have HB1 := hid_of (BkI.mk x1 x2 (hp.kept k1 (fun _ _ f => f)) (hq.kept k1 (fun _ _ f => f)) k1 k1.size)
 have HG := hid_of hG
 have HOP := hid_of op
 have HOQ := hid_of oq
 have HD := hid_of hD
 clear k1 x1 x2 hp hq hG op oq hD
 go_enter Tryz.func3, Tryz.ntmps3
 go_upto_region 1 with fail
 rw [← hW1]
 clear hW1
 generalize w.heap.size + 1 = gq at *
 generalize w.heap.size = gp at *
 go_wp2_with fail
 refine HKN.out.mono ?_
 rintro e w2 ⟨rfl, hk2⟩
 have HB2 := hid_of (HB1.out.step hk2)
 clear hk2 HKN HB1
 obtain ⟨pe, hpe⟩ := nmd (printE p)
 obtain ⟨ps, hps⟩ := nmd (printS p)
 have hpr := print_any _ p _ w2 ((HG.out.same HB2.out.k).gl) HB2.out.p1 HB2.out.lo HOP.out
 rw [← hpe, ← hps] at hpr
 have HPR := hid_of hpr
 have HPE := hid_of hpe
 have HPS := hid_of hps
 clear hpr hpe hps
 obtain ⟨a0, a1, a2, _⟩ := look3 HB2.out.x1
 go_wp2_with fail
 refine HPR.out.mono ?_
 rintro e w3 ⟨rfl, hk3⟩
 have HB3 := hid_of (HB2.out.step hk3)
 clear hk3 HPR HB2 a0 a1 a2
 obtain ⟨qe, hqe⟩ := nmd (printE q)
 obtain ⟨qs, hqs⟩ := nmd (printS q)
 have hpr := print_any _ q _ w3 ((HG.out.same HB3.out.k).gl) HB3.out.p2 HB3.out.lo HOQ.out
 rw [← hqe, ← hqs] at hpr
 have HPR := hid_of hpr
 have HQE := hid_of hqe
 have HQS := hid_of hqs
 clear hpr hqe hqs
 obtain ⟨a0, a1, a2, _⟩ := look3 HB3.out.x2
 go_wp2_with fail
 refine HPR.out.mono ?_
 rintro e w4 ⟨rfl, hk4⟩
 have HB := hid_of (HB3.out.step hk4)
 clear hk4 HPR HB3 a0 a1 a2
 have hrc := rcheck_any _ p w4 _ HB.out.p1 HB.out.lo HOP.out
 rcases printE_cases p with ⟨hc, hx⟩ | ⟨hc, hx⟩ | ⟨hc, hx, hx2, hx0⟩
 ·obtain rfl : pe = 0 := HPE.out.trans hx
  rw [hc] at hrc
  have HRK := hid_of hrc
  have HPB := fun wx (hg : Gs wx) => hid_of (parse_back p wx hg hx HOP.out)
  have HPX := hid_of hx
  clear hrc hc hx
  obtain ⟨a0, a1, a2, _⟩ := look3 HB.out.x1
  go_wp2_with fail
  refine HRK.out.mono ?_
  rintro e w5 ⟨rfl, hk5⟩
  have HB5 := hid_of (HB.out.step hk5)
  clear hk5 HRK a0 a1 a2 HB
  have HPB5 := hid_of (parse_back p w5 (HG.out.same HB5.out.k) HPX.out HOP.out)
  rw [← HPS.out] at HPB5
  clear HPB
  have hn1 := nnNil
  go_wp2_with fail
  refine HPB5.out.mono ?_
  rintro e w6 ⟨hk6, ym, yda, ydn, ydc, yfa, yfn, yfc, rfl, hpy⟩
  have hkc : Kept (fun _ => False) w6 (w6.alloc (.cells #[.int .i64 ym, .slice yda ydn ydc, .slice yfa yfn yfc] 25)) := (Kept.refl _ _).alloc _
  have HY := hid_of (heap_alloc_new w6 (.cells #[.int .i64 ym, .slice yda ydn ydc, .slice yfa yfn yfc] 25))
  have HB6 := hid_of (HB5.out.step (hk6.trans hkc))
  have HSM := hid_of (sameG _ _ p _ _ _ (hpy.kept hkc (fun _ _ f => f)) HB6.out.p1 HOP.out)
  clear hk6 hkc hpy HPB5 HB5
  go_upto_region 9 with fail
  generalize w6.alloc (.cells #[.int .i64 ym, .slice yda ydn ydc, .slice yfa yfn yfc] 25) = w7 at *
  generalize w6.heap.size = gy at *
  obtain ⟨a0, a1, a2, _⟩ := look3 HB6.out.x1
  obtain ⟨y0, y1, y2, _⟩ := look3 HY.out
  go_wp2_with fail
  refine HSM.out.mono ?_
  rintro e w7b ⟨rfl, hk7⟩
  have HB7 := hid_of (HB6.out.step hk7)
  clear hk7 HSM a0 a1 a2 y0 y1 y2 HY HB6
  by_cases hqe : qe = 0
  ·subst hqe
   have HQX : Hid (printE q = 0) := HQE.out.symm
   have HSH := hid_of (sameH _ _ p q w7b _ _ HB7.out.p1 HB7.out.p2 HOP.out HOQ.out)
   have HES : Hid ((ps.toList == qs.toList) = true ↔ p = q) := by
    show _ ↔ _
    rw [toL_eq, HPS.out, HQS.out]
    exact ⟨print_inj HPX.out HQX.out HOP.out HOQ.out, fun e => by rw [e]⟩
   have hes := eqSt ps qs
   obtain ⟨a0, a1, a2, _⟩ := look3 HB7.out.x1
   obtain ⟨b0, b1, b2, _⟩ := look3 HB7.out.x2
   obtain ⟨sb, hsb⟩ := nmd ((ps.toList == qs.toList))
   rw [← hsb] at hes HES
   have HSB := hid_of hsb
   clear hsb
   go_wp2_with fail
   refine HSH.out.mono ?_
   rintro e wT ⟨b, rfl, hb, hkT⟩
   have HB := hid_of (HB7.out.step hkT)
   have hbb : b = sb := by
    have h1 := HES.out
    cases b <;> cases sb <;> simp_all
   subst hbb
   clear hb hkT HSH HES a0 a1 a2 b0 b1 b2 HB7 hes
   have hsq := HSB.out.symm
   clear HSB
   cases b
   ·have HPT := hid_of (parseG D HD.out wT (HG.out.same HB.out.k))
    go_wp2_with fail
    refine HPT.out.mono ?_
    rintro e w8 hpar
    clear HPT
    obtain ⟨hk8, ⟨ln, er, g, -, her, rfl, hgg⟩ | ⟨R, vx, -, hck, hnum, hrok, rfl, hpg⟩⟩ := hpar
    ·have hka : Kept (fun _ => False) w8 (w8.alloc (.cells #[.int .i64 0, .slice none 0 0, .slice none 0 0] 25)) := (Kept.refl _ _).alloc _
     have HX := hid_of (heap_alloc_new w8 (.cells #[.int .i64 0, .slice none 0 0, .slice none 0 0] 25))
     have HK8 := hid_of ((HB.out.k.trans hk8).trans hka)
     clear hka hk8 hgg HB
     go_upto_region 14 with fail
     generalize w8.alloc (.cells #[.int .i64 0, .slice none 0 0, .slice none 0 0] 25) = w9 at *
     generalize w8.heap.size = gx at *
     have HSZ := hid_of (sameG (.agg #[.int .i64 0, .slice none 0 0, .slice none 0 0]) (.agg #[.int .i64 0, .slice none 0 0, .slice none 0 0]) _ w9 0 0 (pg_zeroT _ _) (pg_zeroT _ _) pg_zeroT_ok)
     obtain ⟨z0, z1, z2, _⟩ := look3 HX.out
     go_wp2_with fail
     refine HSZ.out.mono ?_
     rintro e wa ⟨rfl, hka⟩
     have HKA := hid_of (HK8.out.trans hka)
     clear hka HSZ z0 z1 z2
     go_wp2
     go_ret
     exact ⟨rfl, HKA.out⟩
    ·obtain ⟨xm, xda, xdn, xdc, xfa, xfn, xfc, rfl⟩ := pg_shapeK hpg
     have hxo := pgG_ok hnum hrok
     generalize pgG R = x at *
     clear hnum hrok
     have HXO := hid_of hxo
     have HCK := hid_of hck
     have hka : Kept (fun _ => False) w8 (w8.alloc (.cells #[.int .i64 xm, .slice xda xdn xdc, .slice xfa xfn xfc] 25)) := (Kept.refl _ _).alloc _
     have HX := hid_of (heap_alloc_new w8 (.cells #[.int .i64 xm, .slice xda xdn xdc, .slice xfa xfn xfc] 25))
     have HPX := hid_of (hpg.kept hka (fun _ _ f => f))
     have HK8 := hid_of ((HB.out.k.trans hk8).trans hka)
     have HLO : Hid (w8.heap.size ≤ (w8.alloc (.cells #[.int .i64 xm, .slice xda xdn xdc, .slice xfa xfn xfc] 25)).heap.size) := hka.size
     clear hka hk8 hpg HB hxo hck
     have hn1 := nnNil
     go_upto_region 14 with fail
     generalize w8.alloc (.cells #[.int .i64 xm, .slice xda xdn xdc, .slice xfa xfn xfc] 25) = w9 at *
     generalize w8.heap.size = gx at *
     obtain ⟨z0, z1, z2, _⟩ := look3 HX.out
     obtain ⟨xe, hxe⟩ := nmd (printE x)
     have hpx := print_any _ x _ w9 ((HG.out.same HK8.out).gl) HPX.out HLO.out HXO.out
     rw [← hxe] at hpx
     have HPRX := hid_of hpx
     have HXE := hid_of hxe
     clear hpx hxe
     go_wp2_with fail
     refine HPRX.out.mono ?_
     rintro e wa ⟨rfl, hka⟩
     have HXA := hid_of (box_kept hka HX.out id)
     have HPA := hid_of (HPX.out.kept hka (fun _ _ f => f))
     have HKA := hid_of (HK8.out.trans hka)
     have HLA : Hid (gx ≤ wa.heap.size) := Nat.le_trans HLO.out hka.size
     clear hka HPRX z0 z1 z2
     rcases printE_cases x with ⟨_, hx⟩ | ⟨_, hx⟩ | ⟨hx, _⟩
     ·obtain rfl : xe = 0 := HXE.out.trans hx
      have HPB := hid_of (parse_back x wa (HG.out.same HKA.out) hx HXO.out)
      clear hx HXE
      go_wp2_with fail
      refine HPB.out.mono ?_
      rintro e wb ⟨hkb, ym, yda, ydn, ydc, yfa, yfn, yfc, rfl, hpy⟩
      have hkc : Kept (fun _ => False) wb (wb.alloc (.cells #[.int .i64 ym, .slice yda ydn ydc, .slice yfa yfn yfc] 25)) := (Kept.refl _ _).alloc _
      have HY := hid_of (heap_alloc_new wb (.cells #[.int .i64 ym, .slice yda ydn ydc, .slice yfa yfn yfc] 25))
      have HXC := hid_of (box_kept (hkb.trans hkc) HXA.out id)
      have HKC := hid_of (HKA.out.trans (hkb.trans hkc))
      have HSM := hid_of (sameG _ _ x _ _ _ (HPA.out.kept (hkb.trans hkc) (fun _ _ f => f)) (hpy.kept hkc (fun _ _ f => f)) HXO.out)
      clear hkb hkc hpy HPB
      have hn2 := eeNil
      go_upto_region 20 with fail
      generalize wb.alloc (.cells #[.int .i64 ym, .slice yda ydn ydc, .slice yfa yfn yfc] 25) = wc at *
      generalize wb.heap.size = gy at *
      obtain ⟨z0, z1, z2, _⟩ := look3 HXC.out
      obtain ⟨y0, y1, y2, _⟩ := look3 HY.out
      go_wp2_with fail
      refine HSM.out.mono ?_
      rintro e wd ⟨rfl, hkd⟩
      have HKD := hid_of (HKC.out.trans hkd)
      clear hkd HSM z0 z1 z2 y0 y1 y2
      go_wp2
      go_ret
      exact ⟨rfl, HKD.out⟩
     ·obtain rfl : xe = 2 := HXE.out.trans hx
      have hrc := rcheck_any _ x wa _ HPA.out HLA.out HXO.out
      rw [HCK.out] at hrc
      have HRC := hid_of hrc
      clear hrc hx HXE
      obtain ⟨z0, z1, z2, _⟩ := look3 HXA.out
      go_wp2_with fail
      refine HRC.out.mono ?_
      rintro e wb ⟨rfl, hkb⟩
      have HKB := hid_of (HKA.out.trans hkb)
      clear hkb HRC z0 z1 z2
      go_wp2
      go_ret
      exact ⟨rfl, HKB.out⟩
     ·exact absurd HCK.out hx
   ·have HPT := hid_of (parseG D HD.out wT (HG.out.same HB.out.k))
    go_wp2_with fail
    refine HPT.out.mono ?_
    rintro e w8 hpar
    clear HPT
    obtain ⟨hk8, ⟨ln, er, g, -, her, rfl, hgg⟩ | ⟨R, vx, -, hck, hnum, hrok, rfl, hpg⟩⟩ := hpar
    ·have hka : Kept (fun _ => False) w8 (w8.alloc (.cells #[.int .i64 0, .slice none 0 0, .slice none 0 0] 25)) := (Kept.refl _ _).alloc _
     have HX := hid_of (heap_alloc_new w8 (.cells #[.int .i64 0, .slice none 0 0, .slice none 0 0] 25))
     have HK8 := hid_of ((HB.out.k.trans hk8).trans hka)
     clear hka hk8 hgg HB
     go_upto_region 14 with fail
     generalize w8.alloc (.cells #[.int .i64 0, .slice none 0 0, .slice none 0 0] 25) = w9 at *
     generalize w8.heap.size = gx at *
     have HSZ := hid_of (sameG (.agg #[.int .i64 0, .slice none 0 0, .slice none 0 0]) (.agg #[.int .i64 0, .slice none 0 0, .slice none 0 0]) _ w9 0 0 (pg_zeroT _ _) (pg_zeroT _ _) pg_zeroT_ok)
     obtain ⟨z0, z1, z2, _⟩ := look3 HX.out
     go_wp2_with fail
     refine HSZ.out.mono ?_
     rintro e wa ⟨rfl, hka⟩
     have HKA := hid_of (HK8.out.trans hka)
     clear hka HSZ z0 z1 z2
     go_wp2
     go_ret
     exact ⟨rfl, HKA.out⟩
    ·obtain ⟨xm, xda, xdn, xdc, xfa, xfn, xfc, rfl⟩ := pg_shapeK hpg
     have hxo := pgG_ok hnum hrok
     generalize pgG R = x at *
     clear hnum hrok
     have HXO := hid_of hxo
     have HCK := hid_of hck
     have hka : Kept (fun _ => False) w8 (w8.alloc (.cells #[.int .i64 xm, .slice xda xdn xdc, .slice xfa xfn xfc] 25)) := (Kept.refl _ _).alloc _
     have HX := hid_of (heap_alloc_new w8 (.cells #[.int .i64 xm, .slice xda xdn xdc, .slice xfa xfn xfc] 25))
     have HPX := hid_of (hpg.kept hka (fun _ _ f => f))
     have HK8 := hid_of ((HB.out.k.trans hk8).trans hka)
     have HLO : Hid (w8.heap.size ≤ (w8.alloc (.cells #[.int .i64 xm, .slice xda xdn xdc, .slice xfa xfn xfc] 25)).heap.size) := hka.size
     clear hka hk8 hpg HB hxo hck
     have hn1 := nnNil
     go_upto_region 14 with fail
     generalize w8.alloc (.cells #[.int .i64 xm, .slice xda xdn xdc, .slice xfa xfn xfc] 25) = w9 at *
     generalize w8.heap.size = gx at *
     obtain ⟨z0, z1, z2, _⟩ := look3 HX.out
     obtain ⟨xe, hxe⟩ := nmd (printE x)
     have hpx := print_any _ x _ w9 ((HG.out.same HK8.out).gl) HPX.out HLO.out HXO.out
     rw [← hxe] at hpx
     have HPRX := hid_of hpx
     have HXE := hid_of hxe
     clear hpx hxe
     go_wp2_with fail
     refine HPRX.out.mono ?_
     rintro e wa ⟨rfl, hka⟩
     have HXA := hid_of (box_kept hka HX.out id)
     have HPA := hid_of (HPX.out.kept hka (fun _ _ f => f))
     have HKA := hid_of (HK8.out.trans hka)
     have HLA : Hid (gx ≤ wa.heap.size) := Nat.le_trans HLO.out hka.size
     clear hka HPRX z0 z1 z2
     rcases printE_cases x with ⟨_, hx⟩ | ⟨_, hx⟩ | ⟨hx, _⟩
     ·obtain rfl : xe = 0 := HXE.out.trans hx
      have HPB := hid_of (parse_back x wa (HG.out.same HKA.out) hx HXO.out)
      clear hx HXE
      go_wp2_with fail
      refine HPB.out.mono ?_
      rintro e wb ⟨hkb, ym, yda, ydn, ydc, yfa, yfn, yfc, rfl, hpy⟩
      have hkc : Kept (fun _ => False) wb (wb.alloc (.cells #[.int .i64 ym, .slice yda ydn ydc, .slice yfa yfn yfc] 25)) := (Kept.refl _ _).alloc _
      have HY := hid_of (heap_alloc_new wb (.cells #[.int .i64 ym, .slice yda ydn ydc, .slice yfa yfn yfc] 25))
      have HXC := hid_of (box_kept (hkb.trans hkc) HXA.out id)
      have HKC := hid_of (HKA.out.trans (hkb.trans hkc))
      have HSM := hid_of (sameG _ _ x _ _ _ (HPA.out.kept (hkb.trans hkc) (fun _ _ f => f)) (hpy.kept hkc (fun _ _ f => f)) HXO.out)
      clear hkb hkc hpy HPB
      have hn2 := eeNil
      go_upto_region 20 with fail
      generalize wb.alloc (.cells #[.int .i64 ym, .slice yda ydn ydc, .slice yfa yfn yfc] 25) = wc at *
      generalize wb.heap.size = gy at *
      obtain ⟨z0, z1, z2, _⟩ := look3 HXC.out
      obtain ⟨y0, y1, y2, _⟩ := look3 HY.out
      go_wp2_with fail
      refine HSM.out.mono ?_
      rintro e wd ⟨rfl, hkd⟩
      have HKD := hid_of (HKC.out.trans hkd)
      clear hkd HSM z0 z1 z2 y0 y1 y2
      go_wp2
      go_ret
      exact ⟨rfl, HKD.out⟩
     ·obtain rfl : xe = 2 := HXE.out.trans hx
      have hrc := rcheck_any _ x wa _ HPA.out HLA.out HXO.out
      rw [HCK.out] at hrc
      have HRC := hid_of hrc
      clear hrc hx HXE
      obtain ⟨z0, z1, z2, _⟩ := look3 HXA.out
      go_wp2_with fail
      refine HRC.out.mono ?_
      rintro e wb ⟨rfl, hkb⟩
      have HKB := hid_of (HKA.out.trans hkb)
      clear hkb HRC z0 z1 z2
      go_wp2
      go_ret
      exact ⟨rfl, HKB.out⟩
     ·exact absurd HCK.out hx
  ·have hq1 : (qe == 0) = false := by simpa using hqe
   have hq2 : (qe != 0) = true := by simpa using hqe
   have HB := HB7
   clear HB7
   obtain ⟨wT, hwT⟩ := nmd (w7b)
   subst hwT
   have HPT := hid_of (parseG D HD.out wT (HG.out.same HB.out.k))
   go_wp2_with fail
   refine HPT.out.mono ?_
   rintro e w8 hpar
   clear HPT
   obtain ⟨hk8, ⟨ln, er, g, -, her, rfl, hgg⟩ | ⟨R, vx, -, hck, hnum, hrok, rfl, hpg⟩⟩ := hpar
   ·have hka : Kept (fun _ => False) w8 (w8.alloc (.cells #[.int .i64 0, .slice none 0 0, .slice none 0 0] 25)) := (Kept.refl _ _).alloc _
    have HX := hid_of (heap_alloc_new w8 (.cells #[.int .i64 0, .slice none 0 0, .slice none 0 0] 25))
    have HK8 := hid_of ((HB.out.k.trans hk8).trans hka)
    clear hka hk8 hgg HB
    go_upto_region 14 with fail
    generalize w8.alloc (.cells #[.int .i64 0, .slice none 0 0, .slice none 0 0] 25) = w9 at *
    generalize w8.heap.size = gx at *
    have HSZ := hid_of (sameG (.agg #[.int .i64 0, .slice none 0 0, .slice none 0 0]) (.agg #[.int .i64 0, .slice none 0 0, .slice none 0 0]) _ w9 0 0 (pg_zeroT _ _) (pg_zeroT _ _) pg_zeroT_ok)
    obtain ⟨z0, z1, z2, _⟩ := look3 HX.out
    go_wp2_with fail
    refine HSZ.out.mono ?_
    rintro e wa ⟨rfl, hka⟩
    have HKA := hid_of (HK8.out.trans hka)
    clear hka HSZ z0 z1 z2
    go_wp2
    go_ret
    exact ⟨rfl, HKA.out⟩
   ·obtain ⟨xm, xda, xdn, xdc, xfa, xfn, xfc, rfl⟩ := pg_shapeK hpg
    have hxo := pgG_ok hnum hrok
    generalize pgG R = x at *
    clear hnum hrok
    have HXO := hid_of hxo
    have HCK := hid_of hck
    have hka : Kept (fun _ => False) w8 (w8.alloc (.cells #[.int .i64 xm, .slice xda xdn xdc, .slice xfa xfn xfc] 25)) := (Kept.refl _ _).alloc _
    have HX := hid_of (heap_alloc_new w8 (.cells #[.int .i64 xm, .slice xda xdn xdc, .slice xfa xfn xfc] 25))
    have HPX := hid_of (hpg.kept hka (fun _ _ f => f))
    have HK8 := hid_of ((HB.out.k.trans hk8).trans hka)
    have HLO : Hid (w8.heap.size ≤ (w8.alloc (.cells #[.int .i64 xm, .slice xda xdn xdc, .slice xfa xfn xfc] 25)).heap.size) := hka.size
    clear hka hk8 hpg HB hxo hck
    have hn1 := nnNil
    go_upto_region 14 with fail
    generalize w8.alloc (.cells #[.int .i64 xm, .slice xda xdn xdc, .slice xfa xfn xfc] 25) = w9 at *
    generalize w8.heap.size = gx at *
    obtain ⟨z0, z1, z2, _⟩ := look3 HX.out
    obtain ⟨xe, hxe⟩ := nmd (printE x)
    have hpx := print_any _ x _ w9 ((HG.out.same HK8.out).gl) HPX.out HLO.out HXO.out
    rw [← hxe] at hpx
    have HPRX := hid_of hpx
    have HXE := hid_of hxe
    clear hpx hxe
    go_wp2_with fail
    refine HPRX.out.mono ?_
    rintro e wa ⟨rfl, hka⟩
    have HXA := hid_of (box_kept hka HX.out id)
    have HPA := hid_of (HPX.out.kept hka (fun _ _ f => f))
    have HKA := hid_of (HK8.out.trans hka)
    have HLA : Hid (gx ≤ wa.heap.size) := Nat.le_trans HLO.out hka.size
    clear hka HPRX z0 z1 z2
    rcases printE_cases x with ⟨_, hx⟩ | ⟨_, hx⟩ | ⟨hx, _⟩
    ·obtain rfl : xe = 0 := HXE.out.trans hx
     have HPB := hid_of (parse_back x wa (HG.out.same HKA.out) hx HXO.out)
     clear hx HXE
     go_wp2_with fail
     refine HPB.out.mono ?_
     rintro e wb ⟨hkb, ym, yda, ydn, ydc, yfa, yfn, yfc, rfl, hpy⟩
     have hkc : Kept (fun _ => False) wb (wb.alloc (.cells #[.int .i64 ym, .slice yda ydn ydc, .slice yfa yfn yfc] 25)) := (Kept.refl _ _).alloc _
     have HY := hid_of (heap_alloc_new wb (.cells #[.int .i64 ym, .slice yda ydn ydc, .slice yfa yfn yfc] 25))
     have HXC := hid_of (box_kept (hkb.trans hkc) HXA.out id)
     have HKC := hid_of (HKA.out.trans (hkb.trans hkc))
     have HSM := hid_of (sameG _ _ x _ _ _ (HPA.out.kept (hkb.trans hkc) (fun _ _ f => f)) (hpy.kept hkc (fun _ _ f => f)) HXO.out)
     clear hkb hkc hpy HPB
     have hn2 := eeNil
     go_upto_region 20 with fail
     generalize wb.alloc (.cells #[.int .i64 ym, .slice yda ydn ydc, .slice yfa yfn yfc] 25) = wc at *
     generalize wb.heap.size = gy at *
     obtain ⟨z0, z1, z2, _⟩ := look3 HXC.out
     obtain ⟨y0, y1, y2, _⟩ := look3 HY.out
     go_wp2_with fail
     refine HSM.out.mono ?_
     rintro e wd ⟨rfl, hkd⟩
     have HKD := hid_of (HKC.out.trans hkd)
     clear hkd HSM z0 z1 z2 y0 y1 y2
     go_wp2
     go_ret
     exact ⟨rfl, HKD.out⟩
    ·obtain rfl : xe = 2 := HXE.out.trans hx
     have hrc := rcheck_any _ x wa _ HPA.out HLA.out HXO.out
     rw [HCK.out] at hrc
     have HRC := hid_of hrc
     clear hrc hx HXE
     obtain ⟨z0, z1, z2, _⟩ := look3 HXA.out
     go_wp2_with fail
     refine HRC.out.mono ?_
     rintro e wb ⟨rfl, hkb⟩
     have HKB := hid_of (HKA.out.trans hkb)
     clear hkb HRC z0 z1 z2
     go_wp2
     go_ret
     exact ⟨rfl, HKB.out⟩
    ·exact absurd HCK.out hx
 ·obtain rfl : pe = 2 := HPE.out.trans hx
  rw [hc] at hrc
  have HRK := hid_of hrc
  clear hrc hc hx
  obtain ⟨a0, a1, a2, _⟩ := look3 HB.out.x1
  go_wp2_with fail
  refine HRK.out.mono ?_
  rintro e w5 ⟨rfl, hk5⟩
  have HB5 := hid_of (HB.out.step hk5)
  clear hk5 HRK a0 a1 a2 HB
  have HB := HB5
  clear HB5
  obtain ⟨wT, hwT⟩ := nmd (w5)
  subst hwT
  have HPT := hid_of (parseG D HD.out wT (HG.out.same HB.out.k))
  go_wp2_with fail
  refine HPT.out.mono ?_
  rintro e w8 hpar
  clear HPT
  obtain ⟨hk8, ⟨ln, er, g, -, her, rfl, hgg⟩ | ⟨R, vx, -, hck, hnum, hrok, rfl, hpg⟩⟩ := hpar
  ·have hka : Kept (fun _ => False) w8 (w8.alloc (.cells #[.int .i64 0, .slice none 0 0, .slice none 0 0] 25)) := (Kept.refl _ _).alloc _
   have HX := hid_of (heap_alloc_new w8 (.cells #[.int .i64 0, .slice none 0 0, .slice none 0 0] 25))
   have HK8 := hid_of ((HB.out.k.trans hk8).trans hka)
   clear hka hk8 hgg HB
   go_upto_region 14 with fail
   generalize w8.alloc (.cells #[.int .i64 0, .slice none 0 0, .slice none 0 0] 25) = w9 at *
   generalize w8.heap.size = gx at *
   have HSZ := hid_of (sameG (.agg #[.int .i64 0, .slice none 0 0, .slice none 0 0]) (.agg #[.int .i64 0, .slice none 0 0, .slice none 0 0]) _ w9 0 0 (pg_zeroT _ _) (pg_zeroT _ _) pg_zeroT_ok)
   obtain ⟨z0, z1, z2, _⟩ := look3 HX.out
   go_wp2_with fail
   refine HSZ.out.mono ?_
   rintro e wa ⟨rfl, hka⟩
   have HKA := hid_of (HK8.out.trans hka)
   clear hka HSZ z0 z1 z2
   go_wp2
   go_ret
   exact ⟨rfl, HKA.out⟩
  ·obtain ⟨xm, xda, xdn, xdc, xfa, xfn, xfc, rfl⟩ := pg_shapeK hpg
   have hxo := pgG_ok hnum hrok
   generalize pgG R = x at *
   clear hnum hrok
   have HXO := hid_of hxo
   have HCK := hid_of hck
   have hka : Kept (fun _ => False) w8 (w8.alloc (.cells #[.int .i64 xm, .slice xda xdn xdc, .slice xfa xfn xfc] 25)) := (Kept.refl _ _).alloc _
   have HX := hid_of (heap_alloc_new w8 (.cells #[.int .i64 xm, .slice xda xdn xdc, .slice xfa xfn xfc] 25))
   have HPX := hid_of (hpg.kept hka (fun _ _ f => f))
   have HK8 := hid_of ((HB.out.k.trans hk8).trans hka)
   have HLO : Hid (w8.heap.size ≤ (w8.alloc (.cells #[.int .i64 xm, .slice xda xdn xdc, .slice xfa xfn xfc] 25)).heap.size) := hka.size
   clear hka hk8 hpg HB hxo hck
   have hn1 := nnNil
   go_upto_region 14 with fail
   generalize w8.alloc (.cells #[.int .i64 xm, .slice xda xdn xdc, .slice xfa xfn xfc] 25) = w9 at *
   generalize w8.heap.size = gx at *
   obtain ⟨z0, z1, z2, _⟩ := look3 HX.out
   obtain ⟨xe, hxe⟩ := nmd (printE x)
   have hpx := print_any _ x _ w9 ((HG.out.same HK8.out).gl) HPX.out HLO.out HXO.out
   rw [← hxe] at hpx
   have HPRX := hid_of hpx
   have HXE := hid_of hxe
   clear hpx hxe
   go_wp2_with fail
   refine HPRX.out.mono ?_
   rintro e wa ⟨rfl, hka⟩
   have HXA := hid_of (box_kept hka HX.out id)
   have HPA := hid_of (HPX.out.kept hka (fun _ _ f => f))
   have HKA := hid_of (HK8.out.trans hka)
   have HLA : Hid (gx ≤ wa.heap.size) := Nat.le_trans HLO.out hka.size
   clear hka HPRX z0 z1 z2
   rcases printE_cases x with ⟨_, hx⟩ | ⟨_, hx⟩ | ⟨hx, _⟩
   ·obtain rfl : xe = 0 := HXE.out.trans hx
    have HPB := hid_of (parse_back x wa (HG.out.same HKA.out) hx HXO.out)
    clear hx HXE
    go_wp2_with fail
    refine HPB.out.mono ?_
    rintro e wb ⟨hkb, ym, yda, ydn, ydc, yfa, yfn, yfc, rfl, hpy⟩
    have hkc : Kept (fun _ => False) wb (wb.alloc (.cells #[.int .i64 ym, .slice yda ydn ydc, .slice yfa yfn yfc] 25)) := (Kept.refl _ _).alloc _
    have HY := hid_of (heap_alloc_new wb (.cells #[.int .i64 ym, .slice yda ydn ydc, .slice yfa yfn yfc] 25))
    have HXC := hid_of (box_kept (hkb.trans hkc) HXA.out id)
    have HKC := hid_of (HKA.out.trans (hkb.trans hkc))
    have HSM := hid_of (sameG _ _ x _ _ _ (HPA.out.kept (hkb.trans hkc) (fun _ _ f => f)) (hpy.kept hkc (fun _ _ f => f)) HXO.out)
    clear hkb hkc hpy HPB
    have hn2 := eeNil
    go_upto_region 20 with fail
    generalize wb.alloc (.cells #[.int .i64 ym, .slice yda ydn ydc, .slice yfa yfn yfc] 25) = wc at *
    generalize wb.heap.size = gy at *
    obtain ⟨z0, z1, z2, _⟩ := look3 HXC.out
    obtain ⟨y0, y1, y2, _⟩ := look3 HY.out
    go_wp2_with fail
    refine HSM.out.mono ?_
    rintro e wd ⟨rfl, hkd⟩
    have HKD := hid_of (HKC.out.trans hkd)
    clear hkd HSM z0 z1 z2 y0 y1 y2
    go_wp2
    go_ret
    exact ⟨rfl, HKD.out⟩
   ·obtain rfl : xe = 2 := HXE.out.trans hx
    have hrc := rcheck_any _ x wa _ HPA.out HLA.out HXO.out
    rw [HCK.out] at hrc
    have HRC := hid_of hrc
    clear hrc hx HXE
    obtain ⟨z0, z1, z2, _⟩ := look3 HXA.out
    go_wp2_with fail
    refine HRC.out.mono ?_
    rintro e wb ⟨rfl, hkb⟩
    have HKB := hid_of (HKA.out.trans hkb)
    clear hkb HRC z0 z1 z2
    go_wp2
    go_ret
    exact ⟨rfl, HKB.out⟩
   ·exact absurd HCK.out hx
 ·have e1 : (pe == 0) = false := by rw [HPE.out]; simpa using hx0
  have e2 : (pe == 2) = false := by rw [HPE.out]; simpa using hx2
  have e3 : (checkP p == 0) = false := by simpa using hc
  have HRK := hid_of hrc
  clear hrc hc hx hx0 hx2
  generalize checkP p = ck at *
  obtain ⟨a0, a1, a2, _⟩ := look3 HB.out.x1
  go_wp2_with fail
  refine HRK.out.mono ?_
  rintro e w5 ⟨rfl, hk5⟩
  have HB5 := hid_of (HB.out.step hk5)
  clear hk5 HRK a0 a1 a2 HB
  have HB := HB5
  clear HB5
  obtain ⟨wT, hwT⟩ := nmd (w5)
  subst hwT
  have HPT := hid_of (parseG D HD.out wT (HG.out.same HB.out.k))
  go_wp2_with fail
  refine HPT.out.mono ?_
  rintro e w8 hpar
  clear HPT
  obtain ⟨hk8, ⟨ln, er, g, -, her, rfl, hgg⟩ | ⟨R, vx, -, hck, hnum, hrok, rfl, hpg⟩⟩ := hpar
  ·have hka : Kept (fun _ => False) w8 (w8.alloc (.cells #[.int .i64 0, .slice none 0 0, .slice none 0 0] 25)) := (Kept.refl _ _).alloc _
   have HX := hid_of (heap_alloc_new w8 (.cells #[.int .i64 0, .slice none 0 0, .slice none 0 0] 25))
   have HK8 := hid_of ((HB.out.k.trans hk8).trans hka)
   clear hka hk8 hgg HB
   go_upto_region 14 with fail
   generalize w8.alloc (.cells #[.int .i64 0, .slice none 0 0, .slice none 0 0] 25) = w9 at *
   generalize w8.heap.size = gx at *
   have HSZ := hid_of (sameG (.agg #[.int .i64 0, .slice none 0 0, .slice none 0 0]) (.agg #[.int .i64 0, .slice none 0 0, .slice none 0 0]) _ w9 0 0 (pg_zeroT _ _) (pg_zeroT _ _) pg_zeroT_ok)
   obtain ⟨z0, z1, z2, _⟩ := look3 HX.out
   go_wp2_with fail
   refine HSZ.out.mono ?_
   rintro e wa ⟨rfl, hka⟩
   have HKA := hid_of (HK8.out.trans hka)
   clear hka HSZ z0 z1 z2
   go_wp2
   go_ret
   exact ⟨rfl, HKA.out⟩
  ·obtain ⟨xm, xda, xdn, xdc, xfa, xfn, xfc, rfl⟩ := pg_shapeK hpg
   have hxo := pgG_ok hnum hrok
   generalize pgG R = x at *
   clear hnum hrok
   have HXO := hid_of hxo
   have HCK := hid_of hck
   have hka : Kept (fun _ => False) w8 (w8.alloc (.cells #[.int .i64 xm, .slice xda xdn xdc, .slice xfa xfn xfc] 25)) := (Kept.refl _ _).alloc _
   have HX := hid_of (heap_alloc_new w8 (.cells #[.int .i64 xm, .slice xda xdn xdc, .slice xfa xfn xfc] 25))
   have HPX := hid_of (hpg.kept hka (fun _ _ f => f))
   have HK8 := hid_of ((HB.out.k.trans hk8).trans hka)
   have HLO : Hid (w8.heap.size ≤ (w8.alloc (.cells #[.int .i64 xm, .slice xda xdn xdc, .slice xfa xfn xfc] 25)).heap.size) := hka.size
   clear hka hk8 hpg HB hxo hck
   have hn1 := nnNil
   go_upto_region 14 with fail
   generalize w8.alloc (.cells #[.int .i64 xm, .slice xda xdn xdc, .slice xfa xfn xfc] 25) = w9 at *
   generalize w8.heap.size = gx at *
   obtain ⟨z0, z1, z2, _⟩ := look3 HX.out
   obtain ⟨xe, hxe⟩ := nmd (printE x)
   have hpx := print_any _ x _ w9 ((HG.out.same HK8.out).gl) HPX.out HLO.out HXO.out
   rw [← hxe] at hpx
   have HPRX := hid_of hpx
   have HXE := hid_of hxe
   clear hpx hxe
   go_wp2_with fail
   refine HPRX.out.mono ?_
   rintro e wa ⟨rfl, hka⟩
   have HXA := hid_of (box_kept hka HX.out id)
   have HPA := hid_of (HPX.out.kept hka (fun _ _ f => f))
   have HKA := hid_of (HK8.out.trans hka)
   have HLA : Hid (gx ≤ wa.heap.size) := Nat.le_trans HLO.out hka.size
   clear hka HPRX z0 z1 z2
   rcases printE_cases x with ⟨_, hx⟩ | ⟨_, hx⟩ | ⟨hx, _⟩
   ·obtain rfl : xe = 0 := HXE.out.trans hx
    have HPB := hid_of (parse_back x wa (HG.out.same HKA.out) hx HXO.out)
    clear hx HXE
    go_wp2_with fail
    refine HPB.out.mono ?_
    rintro e wb ⟨hkb, ym, yda, ydn, ydc, yfa, yfn, yfc, rfl, hpy⟩
    have hkc : Kept (fun _ => False) wb (wb.alloc (.cells #[.int .i64 ym, .slice yda ydn ydc, .slice yfa yfn yfc] 25)) := (Kept.refl _ _).alloc _
    have HY := hid_of (heap_alloc_new wb (.cells #[.int .i64 ym, .slice yda ydn ydc, .slice yfa yfn yfc] 25))
    have HXC := hid_of (box_kept (hkb.trans hkc) HXA.out id)
    have HKC := hid_of (HKA.out.trans (hkb.trans hkc))
    have HSM := hid_of (sameG _ _ x _ _ _ (HPA.out.kept (hkb.trans hkc) (fun _ _ f => f)) (hpy.kept hkc (fun _ _ f => f)) HXO.out)
    clear hkb hkc hpy HPB
    have hn2 := eeNil
    go_upto_region 20 with fail
    generalize wb.alloc (.cells #[.int .i64 ym, .slice yda ydn ydc, .slice yfa yfn yfc] 25) = wc at *
    generalize wb.heap.size = gy at *
    obtain ⟨z0, z1, z2, _⟩ := look3 HXC.out
    obtain ⟨y0, y1, y2, _⟩ := look3 HY.out
    go_wp2_with fail
    refine HSM.out.mono ?_
    rintro e wd ⟨rfl, hkd⟩
    have HKD := hid_of (HKC.out.trans hkd)
    clear hkd HSM z0 z1 z2 y0 y1 y2
    go_wp2
    go_ret
    exact ⟨rfl, HKD.out⟩
   ·obtain rfl : xe = 2 := HXE.out.trans hx
    have hrc := rcheck_any _ x wa _ HPA.out HLA.out HXO.out
    rw [HCK.out] at hrc
    have HRC := hid_of hrc
    clear hrc hx HXE
    obtain ⟨z0, z1, z2, _⟩ := look3 HXA.out
    go_wp2_with fail
    refine HRC.out.mono ?_
    rintro e wb ⟨rfl, hkb⟩
    have HKB := hid_of (HKA.out.trans hkb)
    clear hkb HRC z0 z1 z2
    go_wp2
    go_ret
    exact ⟨rfl, HKB.out⟩
   ·exact absurd HCK.out hx
end Go.Proofs.YtpfmhibdmehlcaaGreatDoor

import Derived.Test.YtpfmhibdmehlcaaGreatDoorTBa1
import Derived.Test.YtpfmhibdmehlcaaGreatDoorTBa10
import Derived.Test.YtpfmhibdmehlcaaGreatDoorTBa11
import Derived.Test.YtpfmhibdmehlcaaGreatDoorTBa12
import Derived.Test.YtpfmhibdmehlcaaGreatDoorTBa13
import Derived.Test.YtpfmhibdmehlcaaGreatDoorTBa14
import Derived.Test.YtpfmhibdmehlcaaGreatDoorTBa15
import Derived.Test.YtpfmhibdmehlcaaGreatDoorTBa16
import Derived.Test.YtpfmhibdmehlcaaGreatDoorTBa17
import Derived.Test.YtpfmhibdmehlcaaGreatDoorTBa18
import Derived.Test.YtpfmhibdmehlcaaGreatDoorTBa19
import Derived.Test.YtpfmhibdmehlcaaGreatDoorTBa2
import Derived.Test.YtpfmhibdmehlcaaGreatDoorTBa20
import Derived.Test.YtpfmhibdmehlcaaGreatDoorTBa21
import Derived.Test.YtpfmhibdmehlcaaGreatDoorTBa22
import Derived.Test.YtpfmhibdmehlcaaGreatDoorTBa23
import Derived.Test.YtpfmhibdmehlcaaGreatDoorTBa24
import Derived.Test.YtpfmhibdmehlcaaGreatDoorTBa25
import Derived.Test.YtpfmhibdmehlcaaGreatDoorTBa26
import Derived.Test.YtpfmhibdmehlcaaGreatDoorTBa27
import Derived.Test.YtpfmhibdmehlcaaGreatDoorTBa28
import Derived.Test.YtpfmhibdmehlcaaGreatDoorTBa29
import Derived.Test.YtpfmhibdmehlcaaGreatDoorTBa3
import Derived.Test.YtpfmhibdmehlcaaGreatDoorTBa30
import Derived.Test.YtpfmhibdmehlcaaGreatDoorTBa31
import Derived.Test.YtpfmhibdmehlcaaGreatDoorTBa32
import Derived.Test.YtpfmhibdmehlcaaGreatDoorTBa33
import Derived.Test.YtpfmhibdmehlcaaGreatDoorTBa34
import Derived.Test.YtpfmhibdmehlcaaGreatDoorTBa35
import Derived.Test.YtpfmhibdmehlcaaGreatDoorTBa36
import Derived.Test.YtpfmhibdmehlcaaGreatDoorTBa37
import Derived.Test.YtpfmhibdmehlcaaGreatDoorTBa38
import Derived.Test.YtpfmhibdmehlcaaGreatDoorTBa39
import Derived.Test.YtpfmhibdmehlcaaGreatDoorTBa4
import Derived.Test.YtpfmhibdmehlcaaGreatDoorTBa40
import Derived.Test.YtpfmhibdmehlcaaGreatDoorTBa41
import Derived.Test.YtpfmhibdmehlcaaGreatDoorTBa42
import Derived.Test.YtpfmhibdmehlcaaGreatDoorTBa43
import Derived.Test.YtpfmhibdmehlcaaGreatDoorTBa44
import Derived.Test.YtpfmhibdmehlcaaGreatDoorTBa45
import Derived.Test.YtpfmhibdmehlcaaGreatDoorTBa46
import Derived.Test.YtpfmhibdmehlcaaGreatDoorTBa47
import Derived.Test.YtpfmhibdmehlcaaGreatDoorTBa48
import Derived.Test.YtpfmhibdmehlcaaGreatDoorTBa49
import Derived.Test.YtpfmhibdmehlcaaGreatDoorTBa5
import Derived.Test.YtpfmhibdmehlcaaGreatDoorTBa50
import Derived.Test.YtpfmhibdmehlcaaGreatDoorTBa51
import Derived.Test.YtpfmhibdmehlcaaGreatDoorTBa6
import Derived.Test.YtpfmhibdmehlcaaGreatDoorTBa7
import Derived.Test.YtpfmhibdmehlcaaGreatDoorTBa8
import Derived.Test.YtpfmhibdmehlcaaGreatDoorTBa9
import Derived.Test.YtpfmhibdmehlcaaGreatDoorTRe2
import Derived.Test.YtpfmhibdmehlcaaGreatDoorProg
import Derived.WalkKit
import Derived.ProofKit
import Derived.Maps.AppendAt
import Derived.Deep.RegionHeld3
import Derived.Lib.SliceRun
import Derived.Laws.BitsAllLaws
import Derived.Lib.AppendStr
import Derived.Deep.QuietTactic
import Derived.BigQuiet
import Derived.WalkSmall
import Derived.Laws.CopyRow
import Derived.Laws.IdiomCopy
import Derived.Laws.Tables
import Derived.Laws.Rows
import Derived.Laws.ResultCell
import Derived.Deep.MidRow
import Derived.Deep.DeepCutAuto
import Derived.Deep.CutBlock
import Derived.Laws.BytesString
import Derived.Deep.AppendSrc
import Derived.Deep.Strs
import Derived.OpenShut
import Derived.ChangeOld
import Derived.Defers
import Derived.Recover
import Derived.Laws.Bits64
import Derived.LaidEqlPtr
import Derived.Deep.RegionLaw
import Derived.Laws.IdiomStrings
import Derived.Lib.SmallJoins
import Derived.Great.BuildSlice
import Derived.Laws.StructEq
import Derived.ChangeSlices
import Derived.SizedLaws
namespace Go.Proofs.YtpfmhibdmehlcaaGreatDoor
open Go.RowKit
set_option linter.unusedVariables false
set_option linter.unusedSimpArgs false
set_option maxRecDepth 100000
theorem parse_out (D : ByteArray) (hD : D.size ≤ 9223372036854775807) (p : PG) (R : Rdr) (h1 : readP D.data.toList = .inr R) (h2 : pgG R = p) (w : World) (hG : Gs w) : Calls Tryz.prog 10 #[.string D] w (PgOut p w) := by
 refine (parseG D hD w hG).mono ?_
 intro e w' hpar
 rw [h1] at hpar
 obtain ⟨hk, ⟨ln, er, g, hh, _⟩ | ⟨R', v, hh, _, _, _, rfl, hpg⟩⟩ := hpar
 ·cases hh
 ·cases hh
  rw [h2] at hpg
  obtain ⟨m, da, dn, dc, fa, fn, fc, rfl⟩ := pg_shapeK hpg
  exact ⟨hk, _, _, _, _, _, _, _, rfl, hpg⟩
theorem pg_nodata {w : World} {B : Nat} {m m' : Int} {da fa : Option Addr} {dn dc fn fc : Nat} {p : PG} (h : PgIs w B (.agg #[.int .i64 m, .slice da dn dc, .slice fa fn fc]) p) : PgIs w B (.agg #[.int .i64 m, .slice none 0 0, .slice fa fn fc]) ⟨p.mem, [], p.fns⟩ := by
 obtain ⟨dv, fv, e, _, _, hf⟩ := h
 injection e with e
 have e1 : Value.int .i64 m = .int .i64 p.mem := by
  have := congrArg (fun a : Array Value => a[0]?) e
  simpa using this
 have e2 : Value.slice fa fn fc = fv := by
  have := congrArg (fun a : Array Value => a[2]?) e
  simpa using this
 rw [e1, e2]
 exact ⟨_, _, rfl, .inl ⟨rfl, _, _, rfl⟩, (fun q hq => by cases hq), hf⟩
set_option maxHeartbeats 32000000 in
theorem rewrites_walk (vp : Value) (p0 : PG) (ws : List W3) (ao0 : Option Addr) (cp : Nat) (nm : ByteArray) (hn : nm.size ≤ 140737488351232) (w : World) (hG : Gs w) (hp : PgIs w w.heap.size vp p0) (op : p0.Ok) (hwl : ws.length ≤ 9223372036854775807) (hok : ∀ y ∈ ws, y.Ok)
  (hrow : ∀ q y, ws[q]? = some y → ∃ g o, ao0 = some ⟨g, o, none⟩ ∧ w.cell? ⟨g, o + q * 3, none⟩ = some (.int .i64 y.a) ∧ w.cell? ⟨g, o + q * 3 + 1, none⟩ = some (.int .i64 y.b) ∧ w.cell? ⟨g, o + q * 3 + 2, none⟩ = some (.int .i64 y.c)) :
  Calls Tryz.prog 4 #[vp, .slice ao0 ws.length cp, .string nm] w fun e w' => e = .returned (.bool true) ∧ Kept (fun _ => False) w w' := by
 obtain ⟨pm, pda, pdn, pdc, pfa, pfn, pfc, rfl⟩ := pg_shapeK hp
 have hk1 : Kept (fun _ => False) w (w.alloc (.cells #[.int .i64 pm, .slice pda pdn pdc, .slice pfa pfn pfc] 25)) := (Kept.refl _ _).alloc _
 have HX1 := hid_of (heap_alloc_new w (.cells #[.int .i64 pm, .slice pda pdn pdc, .slice pfa pfn pfc] 25))
 have HP1 := hid_of ((pg_nodata (m' := 0) hp).kept hk1 (fun _ _ f => f))
 have HKN := hid_of (known_all _ (hG.same hk1))
 have HK1 := hid_of hk1
 have HG := hid_of hG
 have hop : (⟨p0.mem, [], p0.fns⟩ : PG).Ok := ⟨op.mem, ⟨fun x hx => absurd hx List.not_mem_nil, Nat.zero_le _⟩, op.fns, op.len⟩
 obtain ⟨p, hpe⟩ : ∃ q : PG, q = ⟨p0.mem, [], p0.fns⟩ := ⟨_, rfl⟩
 rw [← hpe] at HP1 hop
 have HOP := hid_of hop
 have HPD : Hid (p.data = []) := by rw [hpe]; exact rfl
 have HROW := hid_of hrow
 have HOKW := hid_of hok
 obtain ⟨nw, hnw⟩ : ∃ z, z = ws.length := ⟨_, rfl⟩
 have hnwI : (nw : Int) ≤ 9223372036854775807 := by omega
 have HNW := hid_of hnw
 have HNM := hid_of hn
 have HWL := hid_of hwl
 rw [← hnw]
 clear hk1 hp hG op hop hpe hrow hok hnw hn hwl
 go_enter Tryz.func4, Tryz.ntmps4
 go_upto_region 1 with fail
 have HLO : Hid (w.heap.size ≤ w.heap.size) := Nat.le_refl _
 have HWS : Hid (∀ wx, Kept (fun _ => False) w wx → w.heap.size ≤ wx.heap.size) := fun wx h => h.size
 generalize w.alloc (.cells #[.int .i64 pm, .slice pda pdn pdc, .slice pfa pfn pfc] 25) = w1 at *
 generalize hgp : w.heap.size = gp at *
 have HGP := hid_of hgp
 clear hgp
 go_wp2_with fail
 refine HKN.out.mono ?_
 rintro e w2 ⟨rfl, hk2⟩
 have HX2 := hid_of (box_kept hk2 HX1.out id)
 have HP2 := hid_of (HP1.out.kept hk2 (fun _ _ f => f))
 have HK2 := hid_of (HK1.out.trans hk2)
 clear hk2 HKN HX1 HP1 HK1
 obtain ⟨c0, c1, c2, f0, f1, f2⟩ := look3 HX2.out
 have hx3 := set_block _ _ 1 _ _ _ HX2.out (.slice none 0 0)
 have hk3 := kept_set w2 gp 1 (.slice none 0 0)
 have HX3 : Hid ((w2.setCell ⟨gp, 1, none⟩ (.slice none 0 0)).heap[gp]? = some (.cells #[.int .i64 pm, .slice none 0 0, .slice pfa pfn pfc] 25 (0, 0))) := hx3
 have HP3 := hid_of (HP2.out.kept hk3 (fun q hq e => by omega))
 have HK3 := hid_of (HK2.out.step hk3 (fun q hq e => by have := HGP.out; omega))
 clear hx3 hk3
 go_upto_region 4 with fail
 clear c0 c1 c2 f0 f1 f2 HX2 HP2 HK2
 generalize w2.setCell ⟨gp, 1, none⟩ (.slice none 0 0) = w3 at *
 have HL3 : Hid (gp ≤ w3.heap.size) := HWS.out _ HK3.out
 obtain ⟨pe, hpe⟩ : ∃ z, z = printE p := ⟨_, rfl⟩
 obtain ⟨ps, hps⟩ : ∃ z, z = printS p := ⟨_, rfl⟩
 have hpr := print_any _ p _ w3 ((HG.out.same HK3.out).gl) HP3.out HL3.out HOP.out
 rw [← hpe, ← hps] at hpr
 have HPR := hid_of hpr
 have HPE := hid_of hpe
 have HPS := hid_of hps
 clear hpr hpe hps
 obtain ⟨a0, a1, a2, _⟩ := look3 HX3.out
 go_wp2_with fail
 refine HPR.out.mono ?_
 rintro e w4 ⟨rfl, hk4⟩
 have HX4 := hid_of (box_kept hk4 HX3.out id)
 have HP4 := hid_of (HP3.out.kept hk4 (fun _ _ f => f))
 have HK4 := hid_of (HK3.out.trans hk4)
 have HL4 : Hid (gp ≤ w4.heap.size) := HWS.out _ HK4.out
 clear hk4 HPR HX3 HP3 HK3 HL3 a0 a1 a2
 have hrc := rcheck_any _ p w4 _ HP4.out HL4.out HOP.out
 rcases printE_cases p with ⟨hc, hx⟩ | ⟨hc, hx⟩ | ⟨hc, hx, hx2, hx0⟩
 ·obtain rfl : pe = 0 := HPE.out.trans hx
  have HPX := hid_of hx
  clear hrc hc hx
  by_cases hw0 : nw = 0
  ·have e0 : ((nw : Int) == 0) = true := by simp; omega
   clear hw0
   go_wp2
   go_ret
   exact ⟨rfl, HK4.out⟩
  ·have e0 : ((nw : Int) == 0) = false := by simp; omega
   have HWP : Hid (0 < ws.length) := by have := HNW.out; show 0 < _; omega
   clear hw0
   have HWO := hid_of (wordN_any nm w4 HNM.out)
   go_wp2_with fail
   refine HWO.out.mono ?_
   rintro e w5 ⟨b, rfl, hb, rfl⟩
   clear HWO
   cases b
   ·clear hb
    go_wp2
    go_ret
    exact ⟨rfl, HK4.out⟩
   ·have HWL2 := hid_of (hb rfl)
    clear hb
    by_cases hbig : (20 : Int) < (nm.size : Int)
    ·go_wp2
     go_ret
     exact ⟨rfl, HK4.out⟩
    ·have HN20 : Hid (nm.size ≤ 20) := by show nm.size ≤ 20; omega
     have HCELL : Hid (∃ g o, ao0 = some ⟨g, o, none⟩ ∧ ∀ q y, ws[q]? = some y → w5.cell? ⟨g, o + q * 3, none⟩ = some (.int .i64 y.a) ∧ w5.cell? ⟨g, o + q * 3 + 1, none⟩ = some (.int .i64 y.b) ∧ w5.cell? ⟨g, o + q * 3 + 2, none⟩ = some (.int .i64 y.c)) := by
      obtain ⟨g, o, e1, -⟩ := HROW.out 0 _ (List.getElem?_eq_getElem HWP.out)
      refine ⟨g, o, e1, fun q y hq => ?_⟩
      obtain ⟨g', o', e2, h0, h1, h2⟩ := HROW.out q y hq
      rw [e1] at e2
      cases e2
      exact ⟨HK4.out.cell h0 id, HK4.out.cell h1 id, HK4.out.cell h2 id⟩
     have hrw := rewritten_any ps nm ws ao0 cp w5 (by rw [HPS.out]; exact print_size p HOP.out) HN20.out HWP.out HWL.out HOKW.out HCELL.out
     rw [← HNW.out] at hrw
     obtain ⟨wf, hwf⟩ : ∃ f : Nat → Wy, f = fun k => (ws.getD (k % nw) ⟨0, 0, 0⟩).wy := ⟨_, rfl⟩
     have HWF : Hid (∀ k, (wf k).Ok) := fun k => by rw [hwf]; exact W3.wy_ok _
     rw [← hwf] at hrw
     obtain ⟨tt, htt⟩ : ∃ z : ByteArray, z = ⟨(rwB nm.data.toList wf ps.data.toList 0).toArray⟩ := ⟨_, rfl⟩
     rw [← htt] at hrw
     have HTL : Hid (tt.data.toList = rwB nm.data.toList wf ps.data.toList 0) := by rw [htt]; show _ = _; simp
     have HRW := hid_of hrw
     clear hrw hwf htt HCELL
     go_wp2_with fail
     refine HRW.out.mono ?_
     rintro e w6 ⟨rfl, hk6⟩
     have HX6 := hid_of (box_kept hk6 HX4.out id)
     have HP6 := hid_of (HP4.out.kept hk6 (fun _ _ f => f))
     have HK6 := hid_of (HK4.out.trans hk6)
     clear hk6 HRW HX4 HP4 HK4
     by_cases hl : (65536 : Int) < (tt.size : Int)
     ·go_wp2
      go_ret
      exact ⟨rfl, HK6.out⟩
     ·have HTS : Hid (tt.size ≤ 65536) := by show tt.size ≤ _; omega
      have HOUT : Hid (∃ R, readP tt.data.toList = .inr R ∧ pgG R = p) := by
       have := rewrite_back HPX.out HOP.out HPD.out HWL2.out HWF.out (by
        rw [← HPS.out, ← HTL.out]
        have := HTS.out
        simpa using this)
       rw [← HPS.out, ← HTL.out] at this
       exact this
      obtain ⟨R, hr1, hr2⟩ := HOUT.out
      have HPA := hid_of (parse_out tt (by have := HTS.out; omega) p R hr1 hr2 w6 (HG.out.same HK6.out))
      clear hr1 hr2 HOUT
      go_wp2_with fail
      refine HPA.out.mono ?_
      rintro e w7 ⟨hk7, ym, yda, ydn, ydc, yfa, yfn, yfc, rfl, hpy⟩
      have hkc : Kept (fun _ => False) w7 (w7.alloc (.cells #[.int .i64 ym, .slice yda ydn ydc, .slice yfa yfn yfc] 25)) := (Kept.refl _ _).alloc _
      have HY := hid_of (heap_alloc_new w7 (.cells #[.int .i64 ym, .slice yda ydn ydc, .slice yfa yfn yfc] 25))
      have HX8 := hid_of (box_kept (hk7.trans hkc) HX6.out id)
      have HK8 := hid_of (HK6.out.trans (hk7.trans hkc))
      have HSM := hid_of (sameG _ _ p _ _ _ (hpy.kept hkc (fun _ _ f => f)) (HP6.out.kept (hk7.trans hkc) (fun _ _ f => f)) HOP.out)
      clear hk7 hkc hpy HPA
      have hn2 := eeNil
      go_upto_region 11 with fail
      generalize w7.alloc (.cells #[.int .i64 ym, .slice yda ydn ydc, .slice yfa yfn yfc] 25) = w8 at *
      generalize w7.heap.size = gy at *
      obtain ⟨z0, z1, z2, _⟩ := look3 HX8.out
      obtain ⟨y0, y1, y2, _⟩ := look3 HY.out
      go_wp2_with fail
      refine HSM.out.mono ?_
      rintro e w9 ⟨rfl, hk9⟩
      have HK9 := hid_of (HK8.out.trans hk9)
      clear hk9 HSM z0 z1 z2 y0 y1 y2
      go_wp2
      go_ret
      exact ⟨rfl, HK9.out⟩
 ·obtain rfl : pe = 2 := HPE.out.trans hx
  rw [hc] at hrc
  have HRK := hid_of hrc
  clear hrc hc hx
  obtain ⟨a0, a1, a2, _⟩ := look3 HX4.out
  go_wp2_with fail
  refine HRK.out.mono ?_
  rintro e w5 ⟨rfl, hk5⟩
  have HK5 := hid_of (HK4.out.trans hk5)
  clear hk5 HRK a0 a1 a2
  go_wp2
  go_ret
  exact ⟨rfl, HK5.out⟩
 ·have e1 : (pe == 0) = false := by rw [HPE.out]; simpa using hx0
  have e2 : (pe != 0) = true := by rw [HPE.out]; simpa using hx0
  have e3 : (checkP p == 0) = false := by simpa using hc
  have e4 : (checkP p != 0) = true := by simpa using hc
  have HRK := hid_of hrc
  clear hrc hc hx hx0 hx2
  generalize checkP p = ck at *
  obtain ⟨a0, a1, a2, _⟩ := look3 HX4.out
  go_wp2_with fail
  refine HRK.out.mono ?_
  rintro e w5 ⟨rfl, hk5⟩
  have HK5 := hid_of (HK4.out.trans hk5)
  clear hk5 HRK a0 a1 a2
  go_wp2
  go_ret
  exact ⟨rfl, HK5.out⟩
end Go.Proofs.YtpfmhibdmehlcaaGreatDoor
namespace Go.Proofs.YtpfmhibdmehlcaaGreatDoor
open Go.ChangeShapes Go.WideShapes Go.ChangeAt Go.WideMaps Go.WideElems Go.RowKit Go.Deep
set_option linter.unusedVariables false
set_option linter.unusedSimpArgs false
set_option maxRecDepth 100000
theorem cells64w : Tryz.prog.cellsOf 64 = 3 := by kernel_rfl
def W3.cells (y : W3) : List Value := [.int .i64 y.a, .int .i64 y.b, .int .i64 y.c]
section
variable {H : Type} {enc : TypeId × Value → H} {W : World} {base : Nat} {spare : Nat → Bool} {held : Bool}
theorem open_way {fuel : Nat} {cs : List Value} {x : DataW H × List MemPlace} (h : DataW.trod enc Tryz.prog W base spare held fuel 64 cs = some x) : ∃ y : W3, cs = W3.cells y ∧ y.Ok := by
 obtain ⟨ys, n, _, _, hl, hlen, hf⟩ := DataW.trod_struct Tryz.underlying64 h
 rw [cells64w] at hl
 match ys, hlen with
 | [y0, y1, y2], _ =>
  have g0 : DataW.trod enc Tryz.prog W base spare held n 3 ((cs.drop 0).take 1) = some y0 := by simpa [cells3'] using hf 0 _ rfl
  have g1 : DataW.trod enc Tryz.prog W base spare held n 3 ((cs.drop 1).take 1) = some y1 := by simpa [cells3'] using hf 1 _ rfl
  have g2 : DataW.trod enc Tryz.prog W base spare held n 3 ((cs.drop 2).take 1) = some y2 := by simpa [cells3'] using hf 2 _ rfl
  obtain ⟨k0, e0, _, w0⟩ := DataW.trod_int Tryz.underlying3 g0
  obtain ⟨k1, e1, _, w1⟩ := DataW.trod_int Tryz.underlying3 g1
  obtain ⟨k2, e2, _, w2⟩ := DataW.trod_int Tryz.underlying3 g2
  have b0 := bounds_i64 w0
  have b1 := bounds_i64 w1
  have b2 := bounds_i64 w2
  refine ⟨⟨k0, k1, k2⟩, ?_, ⟨⟨b0.1, show k0 < 9223372036854775808 by omega⟩, ⟨b1.1, show k1 < 9223372036854775808 by omega⟩, b2.1, show k2 < 9223372036854775808 by omega⟩⟩
  have q : cs = (cs.drop 0).take 1 ++ ((cs.drop 1).take 1 ++ (cs.drop 2).take 1) := by
   apply List.ext_getElem?
   intro i
   simp only [List.getElem?_append, List.length_take, List.length_drop, List.getElem?_take, List.getElem?_drop, hl]
   repeat' split
   all_goals (first | (congr 1; omega) | (rw [List.getElem?_eq_none (by omega)]) | omega)
  rw [e0, e1, e2] at q
  rw [q]
  rfl
end
theorem open_ways {H : Type} {enc : TypeId × Value → H} {W : World} {base : Nat} {v : Value} {d : DataW H} {p : List MemPlace} (hval : Value.okWide Tryz.prog W .any base 37 v) (h : DataW.Trod enc Tryz.prog W 0 (fun _ => true) true 37 v d p) :
  ∃ (ao : Option Addr) (c : Nat) (ys : List W3), v = .slice ao ys.length c ∧ ys.length ≤ 9223372036854775807 ∧ (∀ y ∈ ys, y.Ok) ∧ ∀ q y, ys[q]? = some y → ∃ g o, ao = some ⟨g, o, none⟩ ∧ W.cell? ⟨g, o + q * 3, none⟩ = some (.int .i64 y.a) ∧ W.cell? ⟨g, o + q * 3 + 1, none⟩ = some (.int .i64 y.b) ∧ W.cell? ⟨g, o + q * 3 + 2, none⟩ = some (.int .i64 y.c) := by
 obtain ⟨a1, len1, cap1, rfl⟩ := okWide_slice Tryz.underlying37 hval
 obtain ⟨fuel, hf⟩ := h
 rcases Go.Deep.open_slice Tryz.underlying37 hf with ⟨h0, _⟩ | ⟨a, len, cap, m, n, D, Pl, hcs, hb, hl, hm, hm', _, hel⟩
 ·simp [Value.cells] at h0
  obtain ⟨rfl, rfl, rfl⟩ := h0
  exact ⟨none, 0, [], rfl, by decide, fun s hs => absurd hs List.not_mem_nil, fun i s h => by cases h⟩
 ·simp [Value.cells] at hcs
  obtain ⟨rfl, rfl, rfl⟩ := hcs
  by_cases h0 : len1 = 0
  ·subst h0
   exact ⟨_, _, [], rfl, by decide, fun s hs => absurd hs List.not_mem_nil, fun i s h => by cases h⟩
  ·have hlm : len1 ≤ m := by rw [hm']; split <;> omega
   rw [cells64w] at hel
   have hin : Inhabited W3 := ⟨⟨0, 0, 0⟩⟩
   obtain ⟨f, hf⟩ := Go.Deep.choose_lt (n := len1) (p := fun i (y : W3) => W.cells? 0 (a.add (i * 3)) 3 = some (W3.cells y) ∧ y.Ok) (fun i hi => by
    obtain ⟨cs', h1, h2⟩ := hel i (by omega)
    obtain ⟨y, rfl, h3⟩ := open_way h2
    exact ⟨y, h1, h3⟩)
   have hcell : ∀ i, i < len1 → ∀ j, j < 3 → W.cell? ((a.add (i * 3)).add j) = (W3.cells (f i))[j]? := fun i hi => (World.cells?_some (hf i hi).1).2.2
   obtain ⟨b, off, spot⟩ := a
   have hc0 : W.cell? (((⟨b, off, spot⟩ : Addr).add (0 * 3)).add 0) = some (.int .i64 (f 0).a) := hcell 0 (by omega) 0 (by omega)
   have hspot : spot = none := by simpa [Addr.add] using World.cell?_spot hc0
   subst hspot
   refine ⟨some ⟨b, off, none⟩, cap1, (List.range len1).map f, by simp, by simp; unfold maxLen at hm; omega, fun y hy => ?_, fun i y hy => ?_⟩
   ·obtain ⟨i, hi, rfl⟩ := List.mem_map.1 hy
    exact (hf i (List.mem_range.1 hi)).2
   ·have hi : i < len1 := by
     have := (List.getElem?_eq_some_iff.1 hy).1
     simpa using this
    obtain rfl : f i = y := by simpa [hi] using hy
    refine ⟨b, off, rfl, ?_, ?_, ?_⟩
    ·have := hcell i hi 0 (by omega)
     rw [Addr.add_lit, Addr.add_lit, Nat.add_zero] at this
     rw [this]
     rfl
    ·have := hcell i hi 1 (by omega)
     rw [Addr.add_lit, Addr.add_lit] at this
     rw [this]
     rfl
    ·have := hcell i hi 2 (by omega)
     rw [Addr.add_lit, Addr.add_lit] at this
     rw [this]
     rfl
end Go.Proofs.YtpfmhibdmehlcaaGreatDoor

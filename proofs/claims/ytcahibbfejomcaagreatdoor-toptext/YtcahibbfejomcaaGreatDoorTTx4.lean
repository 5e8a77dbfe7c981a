import Derived.Test.YtcahibbfejomcaaGreatDoorTTx3
import Derived.Test.YtcahibbfejomcaaGreatDoorTTx2
import Derived.Lib.SmallJoins
import Derived.Great.BuildSlice
import Derived.Laws.StructEq
namespace Go.Proofs.YtcahibbfejomcaaGreatDoor
open Go.RowKit
set_option linter.unusedVariables false
set_option linter.unusedSimpArgs false
set_option maxRecDepth 100000
theorem row_not {n : Int} (h : ¬ (0 ≤ n ∧ n < 46)) : isRow insL n = false := decide_eq_false h
theorem row_yes {n : Int} (h : 0 ≤ n ∧ n < 46) : isRow insL n = true := decide_eq_true h
theorem kind_ge (bx : Nat → Nat) {m : Nat} (h : 2 ≤ m) : kindL bx m = [.func (.func 117) #[] #[.pointer (some ⟨bx m, 0, none⟩)], fnV 118, fnV 119] := by
 match m, h with
 | n + 2, _ => rfl
theorem may_ge {m : Nat} (h : 2 ≤ m) (a : Int) : mayP m a = (decide (0 ≤ a) && decide (a < endOf m)) := by
 match m, h with
 | n + 2, _ => rfl
theorem opB_ge {m : Nat} (h : 2 ≤ m) (a : Int) : opB m a = Mth.form a := by
 match m, h with
 | n + 2, _ => rfl
set_option maxHeartbeats 16000000 in
theorem encode_any (v : Value) (ys : List IN) (w : World) (hv : RowI w v ys) (hy : ∀ y ∈ ys, y.Ok) (hyl : ys.length ≤ 9223372036854775807) : Calls Tryz.prog 27 #[v] w (EncR ys w) := by
 obtain ⟨ao, c, rfl⟩ := hv.shape
 obtain ⟨n, hn⟩ := nmd (ys.length)
 have HN := hid_of hn
 rw [← hn]
 rw [← hn] at hv hyl
 by_cases hbig : 4096 < n
 ·have hbI : (4096 : Int) < (n : Int) := by omega
  have HR : Hid (EncR ys w (.returned (.tuple #[.slice none 0 0, .int .i64 2])) w) := ⟨Kept.refl _ _, by
   have e : encE ys = 2 := if_pos (by rw [← HN.out]; exact hbig)
   rw [e, if_neg (by decide)]⟩
  clear hv hy hn
  go_enter Tryz.func27, Tryz.ntmps27
  go_wp2
  go_ret2
  exact HR.out
 ·have hbI : (n : Int) ≤ 4096 := by omega
  have hb4 : n ≤ 4096 := by omega
  have HV := hid_of hv
  have HY := hid_of hy
  have HE : Hid (encE ys = firstBad ys) := if_neg (by rw [← HN.out]; omega)
  clear hv hy hn hyl hbig
  go_enter Tryz.func27, Tryz.ntmps27
  go_wp2_with fail
  refine (operands_any w).mono ?_
  rintro e w1 ⟨gl, bx, rfl, hops, hgl, hbl, hk1⟩
  have HO1 := hid_of hops
  have HK1 := hid_of hk1
  have HNW := hid_of (new_any w1)
  clear hops hgl hbl hk1
  go_wp2_with fail
  refine HNW.out.mono ?_
  rintro e w2 ⟨rfl, hw2⟩
  have HE2 : Hid (EnI w1 w2 w1.heap.size (.slice none 0 0) (.ok [])) := by unfold Hid; rw [hw2]; exact ws_new w1
  clear hw2 HNW
  go_wp2
  go_loopw [17] (fun iv wr => ∃ (i : Nat) (wv : Value), i ≤ n ∧ iv = .int .i64 i ∧ EnI w1 wr w1.heap.size wv (.ok (encB (ys.take i))) ∧ ∀ z ∈ ys.take i, errI z = 0) (fun iv _ => n - (intOf iv).toNat)
  case atStart => exact ⟨0, _, by omega, rfl, by simpa [encB] using HE2.out, fun z hz => by simp at hz⟩
  case round =>
   obtain ⟨i, wv, hi, rfl, hE, hgood⟩ := hrel
   clear HE2
   by_cases hlt : i < n
   ·have hltI : (i : Int) < (n : Int) := by omega
    have hi0 : (0 : Int) ≤ (i : Int) := by omega
    have hly : i < ys.length := by rw [← HN.out]; exact hlt
    obtain ⟨y, hyi⟩ : ∃ y, ys[i]? = some y := ⟨_, List.getElem?_eq_getElem hly⟩
    have hyo := HY.out y (List.mem_of_getElem? hyi)
    have HBAD : Hid (errI y ≠ 0 → encE ys = errI y) := fun h => by rw [HE.out]; exact firstBad_at ys i y hyi hgood h
    have HNEXT : Hid (errI y = 0 → (∀ z ∈ ys.take (i + 1), errI z = 0) ∧ encB (ys.take (i + 1)) = encB (ys.take i) ++ putI y) := fun h => by
     rw [List.take_add_one, hyi]
     exact ⟨fun z hz => by
      rcases List.mem_append.1 hz with hz | hz
      ·exact hgood z hz
      ·simp at hz; rw [hz]; exact h, encB_snoc _ _⟩
    have hlen : (encB (ys.take i)).length ≤ 4193000 := by
     have h1 := encB_len (ys.take i) (fun z hz => HY.out z (List.mem_of_mem_take hz))
     have h2 : (ys.take i).length ≤ i := by simp; omega
     omega
    obtain ⟨g, o, e1, r1⟩ : ∃ g o, ao = some ⟨g, o, none⟩ ∧ wr.rangeAt g (o + i * 2) y.cells := by
     rcases HV.out.kept (HK1.out.trans hE.kept) (fun _ _ f => f) with ⟨e, _⟩ | ⟨g, o, c2, e, hc⟩
     ·rw [e] at hly; simp at hly
     ·cases e; exact ⟨g, o, rfl, hc i y hyi⟩
    subst e1
    have hO3 := HO1.out.kept hE.kept id (fun _ _ _ f => f)
    obtain ⟨op, a⟩ := y
    obtain ⟨⟨hp0, hp1⟩, ha0, ha1⟩ := hyo
    generalize encB (ys.take i) = eb at *
    have hkX : Kept (fun _ => False) wr (wr.alloc (.cells #[.int .i64 op, .int .i64 a] 72)) := (Kept.refl _ _).alloc _
    have hBX := heap_alloc_new wr (.cells #[.int .i64 op, .int .i64 a] 72)
    have size52 : (Tryz.prog.info? 72).map (·.size) = some 2 := by kernel_rfl
    have HOA := hid_of (hO3.kept hkX id (fun _ _ _ f => f))
    have HEA := hid_of (hE.step hkX (fun _ _ f => f))
    have HLA : Hid (w1.heap.size < wr.heap.size ∧ ∀ q, wv.ownBlock = some q → q < wr.heap.size) := ⟨hE.ws.size, fun q hq => (hE.ws.lt q hq).1⟩
    have HROW := hid_of (rowk_any gl bx op _ HOA.out hp0 hp1)
    clear hE hO3 hkX hyi hly hgood
    go_wp2_with (refine wpList_load_mid rfl 72 _ rfl g (o + i * 2) rfl [.int .i64 op, .int .i64 a] _ r1 Tryz.underlying72 rfl size52 ?_)
    clear r1
    generalize wr.alloc (.cells #[.int .i64 op, .int .i64 a] 72) = wx at *
    refine HROW.out.mono ?_
    rintro e w4 ⟨rfl, hk4⟩
    have hB4 := box_kept hk4 hBX id
    have HE4 := hid_of (HEA.out.step hk4 (fun _ _ f => f))
    have HO4 := hid_of (HOA.out.kept hk4 id (fun _ _ _ f => f))
    clear hk4 HROW HEA HOA hBX
    have hone := kindR_one bx op
    have hsz : (Tryz.prog.info? 115).map (·.size) = some (kindR bx op).toArray.size := by rw [size74, List.size_toArray, kindR_len]
    have hs0 : (#[.nilFunc, .nilFunc, .nilFunc] : Array Value).size = (kindR bx op).toArray.size := by rw [show (kindR bx op).toArray.size = 3 by rw [List.size_toArray, kindR_len]]; rfl
    obtain ⟨hO, hX, hK⟩ := new_row w4 #[.nilFunc, .nilFunc, .nilFunc] (kindR bx op).toArray 115
    go_upto_region 9 with (refine wpList_store_row rfl 115 _ _ rfl w4.heap.size (kindR bx op).toArray rfl rfl 115 _ hO hsz hs0 hone ?_)
    clear hO hone hsz hs0
    have hwl : wr.heap.size < w4.heap.size := (Array.getElem?_eq_some_iff.1 hB4).1
    generalize (w4.alloc _).setRow w4.heap.size (kindR bx op).toArray = w5 at *
    have hB5 := box_kept hK hB4 id
    have HE5 := hid_of (HE4.out.step hK (fun _ _ f => f))
    have HO5 := hid_of (HO4.out.kept hK id (fun _ _ _ f => f))
    have HX5 := hid_of hX
    have HB5 := hid_of hB5
    generalize w4.heap.size = B at *
    generalize wr.heap.size = X at *
    have x0 : w5.cell? ⟨X, 0, none⟩ = some (.int .i64 op) := by rw [cell_block _ _ _ _ _ _ hB5]; rfl
    have x1 : w5.cell? ⟨X, 1, none⟩ = some (.int .i64 a) := by rw [cell_block _ _ _ _ _ _ hB5]; rfl
    clear hB4 hB5 HE4 HO4 hK
    by_cases hrow : 0 ≤ op ∧ op < 46
    ·rw [row_yes hrow]
     have hkm := kix_lt op.toNat (by omega)
     have hKR : kindR bx op = kindL bx (kOf op) := if_pos hrow
     rw [hKR] at hX
     have HERR : Hid (errI ⟨op, a⟩ = if mayP (kOf op) a = true then 0 else 112) := if_pos (row_yes hrow)
     have HPUT : Hid (putI ⟨op, a⟩ = Mth.form op ++ opB (kOf op) a) := rfl
     have HM6 : Hid (kOf op ≤ 6) := hkm.1
     clear hkm HX5 hKR
     generalize kOf op = m at *
     have hop0 : 0 ≤ op := hrow.1
     clear hrow
     rcases (show m = 0 ∨ m = 1 ∨ 2 ≤ m by omega) with rfl | rfl | hm2
     ·have c0 : w5.cell? ⟨B, 0, none⟩ = some (fnV 109) := by rw [cell_block _ _ _ _ _ _ hX]; rfl
      have hXB := hid_of hX
      clear hX
      by_cases hmay : a = 0
      ·subst hmay
       go_wp2_with fail
       refine (may0 0 w5).mono ?_
       rintro e w6 ⟨rfl, rfl⟩
       rw [show ((0 : Int) == 0) = true from rfl]
       have hz : errI ⟨op, 0⟩ = 0 := by rw [HERR.out, if_pos (show mayP 0 0 = true from rfl)]
       obtain ⟨hgn, hbn⟩ := HNEXT.out hz
       have HGN := hid_of hgn
       have HBN : Hid (encB (ys.take (i + 1)) = (eb ++ Mth.form op) ++ []) := by unfold Hid; rw [hbn, HPUT.out, List.append_assoc]; rfl
       have HNUM := hid_of (num_s w1.heap.size wv _ op w6 HE5.out.ws hp0 hp1)
       rw [num_ok eb op hop0 hp1 (by omega)] at HNUM
       clear c0 hz hgn hbn
       go_wp2_with fail
       refine HNUM.out.mono ?_
       rintro e w7 hp7
       obtain ⟨rfl, wv7, hE7, hk7, hn7⟩ := HE5.out.put hp7
       have hB7 := box_kept hk7 HB5.out (fun e => e.elim (fun e => by have := HLA.out.1; omega) (fun e => by have := HLA.out.2 _ e; omega))
       have hX7 := box_kept hk7 hXB.out (fun e => e.elim (fun e => by have := HLA.out.1; omega) (fun e => by have := HLA.out.2 _ e; omega))
       have y1 : w7.cell? ⟨X, 1, none⟩ = some (.int .i64 0) := by rw [cell_block _ _ _ _ _ _ hB7]; rfl
       have c1 : w7.cell? ⟨B, 1, none⟩ = some (fnV 110) := by rw [cell_block _ _ _ _ _ _ hX7]; rfl
       have hl7 : (eb ++ Mth.form op).length ≤ 4194000 := by have := (Mth.form_length op (by omega)).2; rw [List.length_append]; omega
       have HE7 := hid_of hE7
       clear hE7 hk7 hn7 hB7 hX7 hp7 HNUM HE5 x0 x1
       go_wp2_with fail
       refine (put0 _ _ w7).mono ?_
       rintro e w8 ⟨rfl, rfl⟩
       have HE8 : Hid (EnI w1 w8 w1.heap.size wv7 (.ok (encB (ys.take (i + 1))))) := by unfold Hid; rw [HBN.out, List.append_nil]; exact HE7.out
       clear y1 c1
       go_wp2
       go_roundw
       case rel => exact ⟨i + 1, _, by omega, by go_num, HE8.out, HGN.out⟩
       case measure => simp [intOf]; omega
      ·have hbv : (a == 0) = false := by simpa using hmay
       have HBD : Hid (encE ys = 112) := by
        have h1 : errI ⟨op, a⟩ = 112 := by rw [HERR.out, if_neg (by rw [show mayP 0 a = (a == 0) from rfl, hbv]; decide)]
        unfold Hid
        rw [HBAD.out (by rw [h1]; decide), h1]
       go_wp2_with fail
       refine (may0 a w5).mono ?_
       rintro e w6 ⟨rfl, rfl⟩
       rw [hbv]
       have HR : Hid (EncR ys w (.returned (.tuple #[.slice none 0 0, .int .i64 112])) w6) := ⟨HK1.out.trans HE5.out.kept, by rw [HBD.out, if_neg (by decide)]⟩
       clear x0 x1 c0
       go_wp2
       go_ret2
       exact HR.out
     ·have c0 : w5.cell? ⟨B, 0, none⟩ = some (fnV 112) := by rw [cell_block _ _ _ _ _ _ hX]; rfl
      have hXB := hid_of hX
      clear hX
      go_wp2_with fail
      refine (may1 a w5).mono ?_
      rintro e w6 ⟨rfl, rfl⟩
      have hz : errI ⟨op, a⟩ = 0 := by rw [HERR.out, if_pos (show mayP 1 a = true from rfl)]
      obtain ⟨hgn, hbn⟩ := HNEXT.out hz
      have HGN := hid_of hgn
      have HBN : Hid (encB (ys.take (i + 1)) = (eb ++ Mth.form op) ++ Mth.form (fold a)) := by unfold Hid; rw [hbn, HPUT.out, List.append_assoc]; rfl
      have HNUM := hid_of (num_s w1.heap.size wv _ op w6 HE5.out.ws hp0 hp1)
      rw [num_ok eb op hop0 hp1 (by omega)] at HNUM
      clear c0 hz hgn hbn
      go_wp2_with fail
      refine HNUM.out.mono ?_
      rintro e w7 hp7
      obtain ⟨rfl, wv7, hE7, hk7, hn7⟩ := HE5.out.put hp7
      have hB7 := box_kept hk7 HB5.out (fun e => e.elim (fun e => by have := HLA.out.1; omega) (fun e => by have := HLA.out.2 _ e; omega))
      have hX7 := box_kept hk7 hXB.out (fun e => e.elim (fun e => by have := HLA.out.1; omega) (fun e => by have := HLA.out.2 _ e; omega))
      have y1 : w7.cell? ⟨X, 1, none⟩ = some (.int .i64 a) := by rw [cell_block _ _ _ _ _ _ hB7]; rfl
      have c1 : w7.cell? ⟨B, 1, none⟩ = some (fnV 113) := by rw [cell_block _ _ _ _ _ _ hX7]; rfl
      have hl7 : (eb ++ Mth.form op).length ≤ 4194000 := by have := (Mth.form_length op (by omega)).2; rw [List.length_append]; omega
      have HPC := hid_of (put1 w1.heap.size wv7 _ a w7 hE7.ws ha0 ha1)
      rw [fold_ok _ a ha0 ha1 hl7] at HPC
      have HE7 := hid_of hE7
      clear hE7 hk7 hn7 hB7 hX7 hp7 HNUM HE5 x0 x1
      go_wp2_with fail
      refine HPC.out.mono ?_
      rintro e w8 hp8
      obtain ⟨rfl, wv8, hE8, -, -⟩ := HE7.out.put hp8
      have HE8 : Hid (EnI w1 w8 w1.heap.size wv8 (.ok (encB (ys.take (i + 1))))) := by unfold Hid; rw [HBN.out]; exact hE8
      clear hp8 hE8 HPC HE7
      clear y1 c1
      go_wp2
      go_roundw
      case rel => exact ⟨i + 1, _, by omega, by go_num, HE8.out, HGN.out⟩
      case measure => simp [intOf]; omega
     ·rw [kind_ge bx hm2] at hX
      have c0 : w5.cell? ⟨B, 0, none⟩ = some (.func (.func 117) #[] #[.pointer (some ⟨bx m, 0, none⟩)]) := by rw [cell_block _ _ _ _ _ _ hX]; rfl
      have hXB := hid_of hX
      clear hX
      have hbb := HO5.out.box m hm2 HM6.out
      have HV := hid_of (may_ge hm2 a)
      by_cases hmay : 0 ≤ a ∧ a < endOf m
      ·have hbv : (decide (0 ≤ a) && decide (a < endOf m)) = true := by simp [hmay]
       go_wp2_with fail
       refine (may2 a (endOf m) (bx m) w5 hbb).mono ?_
       rintro e w6 ⟨rfl, rfl⟩
       rw [hbv]
       have hz : errI ⟨op, a⟩ = 0 := by rw [HERR.out, if_pos (HV.out.trans hbv)]
       obtain ⟨hgn, hbn⟩ := HNEXT.out hz
       have HGN := hid_of hgn
       have HBN : Hid (encB (ys.take (i + 1)) = (eb ++ Mth.form op) ++ Mth.form a) := by unfold Hid; rw [hbn, HPUT.out, List.append_assoc, opB_ge hm2]
       have HNUM := hid_of (num_s w1.heap.size wv _ op w6 HE5.out.ws hp0 hp1)
       rw [num_ok eb op hop0 hp1 (by omega)] at HNUM
       clear c0 hz hgn hbn
       go_wp2_with fail
       refine HNUM.out.mono ?_
       rintro e w7 hp7
       obtain ⟨rfl, wv7, hE7, hk7, hn7⟩ := HE5.out.put hp7
       have hB7 := box_kept hk7 HB5.out (fun e => e.elim (fun e => by have := HLA.out.1; omega) (fun e => by have := HLA.out.2 _ e; omega))
       have hX7 := box_kept hk7 hXB.out (fun e => e.elim (fun e => by have := HLA.out.1; omega) (fun e => by have := HLA.out.2 _ e; omega))
       have y1 : w7.cell? ⟨X, 1, none⟩ = some (.int .i64 a) := by rw [cell_block _ _ _ _ _ _ hB7]; rfl
       have c1 : w7.cell? ⟨B, 1, none⟩ = some (fnV 118) := by rw [cell_block _ _ _ _ _ _ hX7]; rfl
       have hl7 : (eb ++ Mth.form op).length ≤ 4194000 := by have := (Mth.form_length op (by omega)).2; rw [List.length_append]; omega
       have HPC := hid_of (put2 w1.heap.size wv7 _ a w7 hE7.ws ha0 ha1)
       rw [num_ok _ a hmay.1 ha1 hl7] at HPC
       have HE7 := hid_of hE7
       clear hE7 hk7 hn7 hB7 hX7 hp7 HNUM HE5 x0 x1
       go_wp2_with fail
       refine HPC.out.mono ?_
       rintro e w8 hp8
       obtain ⟨rfl, wv8, hE8, -, -⟩ := HE7.out.put hp8
       have HE8 : Hid (EnI w1 w8 w1.heap.size wv8 (.ok (encB (ys.take (i + 1))))) := by unfold Hid; rw [HBN.out]; exact hE8
       clear hp8 hE8 HPC HE7
       clear y1 c1
       go_wp2
       go_roundw
       case rel => exact ⟨i + 1, _, by omega, by go_num, HE8.out, HGN.out⟩
       case measure => simp [intOf]; omega
      ·have hbv : (decide (0 ≤ a) && decide (a < endOf m)) = false := by rw [Bool.and_eq_false_iff, decide_eq_false_iff_not, decide_eq_false_iff_not]; omega
       have HBD : Hid (encE ys = 112) := by
        have h1 : errI ⟨op, a⟩ = 112 := by rw [HERR.out, if_neg (by rw [HV.out, hbv]; decide)]
        unfold Hid
        rw [HBAD.out (by rw [h1]; decide), h1]
       go_wp2_with fail
       refine (may2 a (endOf m) (bx m) w5 hbb).mono ?_
       rintro e w6 ⟨rfl, rfl⟩
       rw [hbv]
       have HR : Hid (EncR ys w (.returned (.tuple #[.slice none 0 0, .int .i64 112])) w6) := ⟨HK1.out.trans HE5.out.kept, by rw [HBD.out, if_neg (by decide)]⟩
       clear x0 x1 c0
       go_wp2
       go_ret2
       exact HR.out
    ·rw [row_not hrow]
     have HBD : Hid (encE ys = 111) := by
      have h1 : errI ⟨op, a⟩ = 111 := if_neg (by rw [row_not hrow]; decide)
      unfold Hid
      rw [HBAD.out (by rw [h1]; decide), h1]
     have HR : Hid (EncR ys w (.returned (.tuple #[.slice none 0 0, .int .i64 111])) w5) := ⟨HK1.out.trans HE5.out.kept, by rw [HBD.out, if_neg (by decide)]⟩
     clear x0 x1 hrow hX
     go_wp2
     go_ret2
     exact HR.out
   ·have hnl : (n : Int) ≤ (i : Int) := by omega
    have hie : i = n := by omega
    have HZ : Hid (encE ys = 0 ∧ ys.take i = ys) := by
     have ht : ys.take i = ys := List.take_of_length_le (by rw [← HN.out]; omega)
     rw [ht] at hgood
     exact ⟨by rw [HE.out]; exact (firstBad_zero ys).2 hgood, ht⟩
    rw [HZ.out.2] at hE
    have HDN := hid_of (done_s w1.heap.size wv _ wr hE.ws)
    have HKE := hid_of (HK1.out.trans hE.kept)
    have hs1 : w.heap.size ≤ wr.heap.size := HKE.out.size
    clear hE hgood hie
    go_wp2_with fail
    refine HDN.out.mono ?_
    rintro e w9 ⟨v', rfl, ho, hbl⟩
    have HR : Hid (EncR ys w (.returned (.tuple #[v', .int .i64 0])) w9) := ⟨HKE.out.step (kept_of_below hbl) (fun i hi e => by omega), by rw [if_pos HZ.out.1]; exact ⟨v', rfl, own_less ho hs1⟩⟩
    clear ho hbl HDN
    go_wp2
    go_ret2
    exact HR.out
end Go.Proofs.YtcahibbfejomcaaGreatDoor
namespace Go.Proofs.YtcahibbfejomcaaGreatDoor
open Go.RowKit Go.Deep
set_option linter.unusedVariables false
set_option linter.unusedSimpArgs false
set_option maxRecDepth 100000
def readK : Nat → List Int → Except Int (Int × List Int)
 | 0, xs => .ok (0, xs)
 | 1, xs => intD xs
 | _, xs => numD xs
def oneDI (xs : List Int) : Except Int (IN × List Int) :=
 match numD xs with
 | .error f => .error f
 | .ok (op, r1) =>
  if isRow insL op = true then
   match readK (kOf op) r1 with
   | .error f => .error f
   | .ok (a, r2) => if mayP (kOf op) a = true then .ok (⟨op, a⟩, r2) else .error 112
  else .error 111
theorem size52 : (Tryz.prog.info? 72).map (·.size) = some 2 := by kernel_rfl
def allD : Nat → List Int → Except Int (List IN)
 | 0, xs => if xs.length = 0 then .ok [] else .error 2
 | n + 1, xs => if xs.length = 0 then .ok [] else match oneDI xs with
  | .error f => .error f
  | .ok (y, r) => match allD n r with
   | .error f => .error f
   | .ok ys => .ok (y :: ys)
theorem wp_app2 {w : World} {ops : Array Oper} {rest : List Oper} {o : Oper} {a : Act} {Q : Exit → Act → World → Prop} (hgd : o.guard = none) (s x : Operand) (t u : TypeId)
  (ho : o.op = .call { callee := .builtin .append, args := #[s, x], argTypes := #[t, u] }) (v bv : Value) (hs : a.eval s = v) (hx : a.eval x = bv) (v' : Value) (w' : World)
  (hr : (Builtin.append_ #[t, u] o.type #[v, bv]).run Tryz.prog w = .ok v' w') (h : wpList Tryz.prog ops Q rest (a.put o.dst v') w') : wpList Tryz.prog ops Q (o :: rest) a w := by
 refine wpList_plain hgd fun K hK => ?_
 unfold Oper.wp execOp
 simp only [ho, resolve, invoke, builtin, Sem.run_bind, Sem.run_pure, Result.andThen_ok, List.map_toArray, List.map_cons, List.map_nil, hs, hx, hr]
 exact hK _ _ h
def lenOf : Value → Nat
 | .slice _ n _ => n
 | _ => 0
end Go.Proofs.YtcahibbfejomcaaGreatDoor

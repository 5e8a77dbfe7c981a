import Derived.Test.YtpfmhibdmehlcaaGreatDoorTOx3
import Derived.Test.YtpfmhibdmehlcaaGreatDoorTOx2
import Derived.Lib.SmallJoins
import Derived.Great.BuildSlice
import Derived.Laws.StructEq
namespace Go.Proofs.YtpfmhibdmehlcaaGreatDoor
open Go.RowKit
set_option linter.unusedVariables false
set_option linter.unusedSimpArgs false
set_option maxRecDepth 100000
theorem row_not {n : Int} (h : ¬ (0 ≤ n ∧ n < 46)) : isRow insL n = false := decide_eq_false h
theorem row_yes {n : Int} (h : 0 ≤ n ∧ n < 46) : isRow insL n = true := decide_eq_true h
theorem kind_ge (bx : Nat → Nat) {m : Nat} (h : 2 ≤ m) : kindL bx m = [.func (.func 140) #[] #[.pointer (some ⟨bx m, 0, none⟩)], fnV 141, fnV 142] := by
 match m, h with
 | n + 2, _ => rfl
theorem may_ge {m : Nat} (h : 2 ≤ m) (a : Int) : mayP m a = (decide (0 ≤ a) && decide (a < endOf m)) := by
 match m, h with
 | n + 2, _ => rfl
theorem opB_ge {m : Nat} (h : 2 ≤ m) (a : Int) : opB m a = Mth.form a := by
 match m, h with
 | n + 2, _ => rfl
set_option maxHeartbeats 16000000 in
theorem encode_any (v : Value) (ys : List IN) (w : World) (hv : RowI w v ys) (hy : ∀ y ∈ ys, y.Ok) (hyl : ys.length ≤ 9223372036854775807) : Calls Tryz.prog 41 #[v] w (EncR ys w) := by
 obtain ⟨ao, c, rfl⟩ := hv.shape
 obtain ⟨n, hn⟩ := nmd (ys.length)
 have HN := hid_of hn
 rw [← hn]
 rw [← hn] at hv hyl
 by_cases hbig : 4096 < n
 ·have hbI : (4096 : Int) < (n : Int) := by omega
  have HR : Hid (EncR ys w (.returned (.tuple #[.slice none 0 0, .int .i64 2])) w) := ⟨Kept.refl _ _, by
   have e : encE ys = 2 := if_pos (by rw [← HN.out]; exact hbig)
   rw [e, if_neg (by decide)]⟩
  clear hv hy hn
  go_enter Tryz.func41, Tryz.ntmps41
  go_wp2
  go_ret2
  exact HR.out
 ·have hbI : (n : Int) ≤ 4096 := by omega
  have hb4 : n ≤ 4096 := by omega
  have HV := hid_of hv
  have HY := hid_of hy
  have HE : Hid (encE ys = firstBad ys) := if_neg (by rw [← HN.out]; omega)
  clear hv hy hn hyl hbig
  go_enter Tryz.func41, Tryz.ntmps41
  go_wp2_with fail
  refine (operands_any w).mono ?_
  rintro e w1 ⟨gl, bx, rfl, hops, hgl, hbl, hk1⟩
  have HO1 := hid_of hops
  have HK1 := hid_of hk1
  have HNW := hid_of (new_any w1)
  clear hops hgl hbl hk1
  go_wp2_with fail
  refine HNW.out.mono ?_
  rintro e w2 ⟨rfl, hw2⟩
  have HE2 : Hid (EnI w1 w2 w1.heap.size (.slice none 0 0) (.ok [])) := by unfold Hid; rw [hw2]; exact ws_new w1
  clear hw2 HNW
  go_wp2
  go_loopw [17] (fun iv wr => ∃ (i : Nat) (wv : Value), i ≤ n ∧ iv = .int .i64 i ∧ EnI w1 wr w1.heap.size wv (.ok (encB (ys.take i))) ∧ ∀ z ∈ ys.take i, errI z = 0) (fun iv _ => n - (intOf iv).toNat)
  case atStart => exact ⟨0, _, by omega, rfl, by simpa [encB] using HE2.out, fun z hz => by simp at hz⟩
  case round =>
   obtain ⟨i, wv, hi, rfl, hE, hgood⟩ := hrel
   clear HE2
   by_cases hlt : i < n
   ·have hltI : (i : Int) < (n : Int) := by omega
    have hi0 : (0 : Int) ≤ (i : Int) := by omega
    have hly : i < ys.length := by rw [← HN.out]; exact hlt
    obtain ⟨y, hyi⟩ : ∃ y, ys[i]? = some y := ⟨_, List.getElem?_eq_getElem hly⟩
    have hyo := HY.out y (List.mem_of_getElem? hyi)
    have HBAD : Hid (errI y ≠ 0 → encE ys = errI y) := fun h => by rw [HE.out]; exact firstBad_at ys i y hyi hgood h
    have HNEXT : Hid (errI y = 0 → (∀ z ∈ ys.take (i + 1), errI z = 0) ∧ encB (ys.take (i + 1)) = encB (ys.take i) ++ putI y) := fun h => by
     rw [List.take_add_one, hyi]
     exact ⟨fun z hz => by
      rcases List.mem_append.1 hz with hz | hz
      ·exact hgood z hz
      ·simp at hz; rw [hz]; exact h, encB_snoc _ _⟩
    have hlen : (encB (ys.take i)).length ≤ 4193000 := by
     have h1 := encB_len (ys.take i) (fun z hz => HY.out z (List.mem_of_mem_take hz))
     have h2 : (ys.take i).length ≤ i := by simp; omega
     omega
    obtain ⟨g, o, e1, r1⟩ : ∃ g o, ao = some ⟨g, o, none⟩ ∧ wr.rangeAt g (o + i * 2) y.cells := by
     rcases HV.out.kept (HK1.out.trans hE.kept) (fun _ _ f => f) with ⟨e, _⟩ | ⟨g, o, c2, e, hc⟩
     ·rw [e] at hly; simp at hly
     ·cases e; exact ⟨g, o, rfl, hc i y hyi⟩
    subst e1
    have hO3 := HO1.out.kept hE.kept id (fun _ _ _ f => f)
    obtain ⟨op, a⟩ := y
    obtain ⟨⟨hp0, hp1⟩, ha0, ha1⟩ := hyo
    generalize encB (ys.take i) = eb at *
    have hkX : Kept (fun _ => False) wr (wr.alloc (.cells #[.int .i64 op, .int .i64 a] 48)) := (Kept.refl _ _).alloc _
    have hBX := heap_alloc_new wr (.cells #[.int .i64 op, .int .i64 a] 48)
    have size52 : (Tryz.prog.info? 48).map (·.size) = some 2 := by kernel_rfl
    have HOA := hid_of (hO3.kept hkX id (fun _ _ _ f => f))
    have HEA := hid_of (hE.step hkX (fun _ _ f => f))
    have HLA : Hid (w1.heap.size < wr.heap.size ∧ ∀ q, wv.ownBlock = some q → q < wr.heap.size) := ⟨hE.ws.size, fun q hq => (hE.ws.lt q hq).1⟩
    have HROW := hid_of (rowk_any gl bx op _ HOA.out hp0 hp1)
    clear hE hO3 hkX hyi hly hgood
    go_wp2_with (refine wpList_load_mid rfl 48 _ rfl g (o + i * 2) rfl [.int .i64 op, .int .i64 a] _ r1 Tryz.underlying48 rfl size52 ?_)
    clear r1
    generalize wr.alloc (.cells #[.int .i64 op, .int .i64 a] 48) = wx at *
    refine HROW.out.mono ?_
    rintro e w4 ⟨rfl, hk4⟩
    have hB4 := box_kept hk4 hBX id
    have HE4 := hid_of (HEA.out.step hk4 (fun _ _ f => f))
    have HO4 := hid_of (HOA.out.kept hk4 id (fun _ _ _ f => f))
    clear hk4 HROW HEA HOA hBX
    have hone := kindR_one bx op
    have hsz : (Tryz.prog.info? 141).map (·.size) = some (kindR bx op).toArray.size := by rw [size74, List.size_toArray, kindR_len]
    have hs0 : (#[.nilFunc, .nilFunc, .nilFunc] : Array Value).size = (kindR bx op).toArray.size := by rw [show (kindR bx op).toArray.size = 3 by rw [List.size_toArray, kindR_len]]; rfl
    obtain ⟨hO, hX, hK⟩ := new_row w4 #[.nilFunc, .nilFunc, .nilFunc] (kindR bx op).toArray 141
    go_upto_region 9 with (refine wpList_store_row rfl 141 _ _ rfl w4.heap.size (kindR bx op).toArray rfl rfl 141 _ hO hsz hs0 hone ?_)
    clear hO hone hsz hs0
    have hwl : wr.heap.size < w4.heap.size := (Array.getElem?_eq_some_iff.1 hB4).1
    generalize (w4.alloc _).setRow w4.heap.size (kindR bx op).toArray = w5 at *
    have hB5 := box_kept hK hB4 id
    have HE5 := hid_of (HE4.out.step hK (fun _ _ f => f))
    have HO5 := hid_of (HO4.out.kept hK id (fun _ _ _ f => f))
    have HX5 := hid_of hX
    have HB5 := hid_of hB5
    generalize w4.heap.size = B at *
    generalize wr.heap.size = X at *
    have x0 : w5.cell? ⟨X, 0, none⟩ = some (.int .i64 op) := by rw [cell_block _ _ _ _ _ _ hB5]; rfl
    have x1 : w5.cell? ⟨X, 1, none⟩ = some (.int .i64 a) := by rw [cell_block _ _ _ _ _ _ hB5]; rfl
    clear hB4 hB5 HE4 HO4 hK
    by_cases hrow : 0 ≤ op ∧ op < 46
    ·rw [row_yes hrow]
     have hkm := kix_lt op.toNat (by omega)
     have hKR : kindR bx op = kindL bx (kOf op) := if_pos hrow
     rw [hKR] at hX
     have HERR : Hid (errI ⟨op, a⟩ = if mayP (kOf op) a = true then 0 else 112) := if_pos (row_yes hrow)
     have HPUT : Hid (putI ⟨op, a⟩ = Mth.form op ++ opB (kOf op) a) := rfl
     have HM6 : Hid (kOf op ≤ 6) := hkm.1
     clear hkm HX5 hKR
     generalize kOf op = m at *
     have hop0 : 0 ≤ op := hrow.1
     clear hrow
     rcases (show m = 0 ∨ m = 1 ∨ 2 ≤ m by omega) with rfl | rfl | hm2
     ·have c0 : w5.cell? ⟨B, 0, none⟩ = some (fnV 132) := by rw [cell_block _ _ _ _ _ _ hX]; rfl
      have hXB := hid_of hX
      clear hX
      by_cases hmay : a = 0
      ·subst hmay
       go_wp2_with fail
       refine (may0 0 w5).mono ?_
       rintro e w6 ⟨rfl, rfl⟩
       rw [show ((0 : Int) == 0) = true from rfl]
       have hz : errI ⟨op, 0⟩ = 0 := by rw [HERR.out, if_pos (show mayP 0 0 = true from rfl)]
       obtain ⟨hgn, hbn⟩ := HNEXT.out hz
       have HGN := hid_of hgn
       have HBN : Hid (encB (ys.take (i + 1)) = (eb ++ Mth.form op) ++ []) := by unfold Hid; rw [hbn, HPUT.out, List.append_assoc]; rfl
       have HNUM := hid_of (num_s w1.heap.size wv _ op w6 HE5.out.ws hp0 hp1)
       rw [num_ok eb op hop0 hp1 (by omega)] at HNUM
       clear c0 hz hgn hbn
       go_wp2_with fail
       refine HNUM.out.mono ?_
       rintro e w7 hp7
       obtain ⟨rfl, wv7, hE7, hk7, hn7⟩ := HE5.out.put hp7
       have hB7 := box_kept hk7 HB5.out (fun e => e.elim (fun e => by have := HLA.out.1; omega) (fun e => by have := HLA.out.2 _ e; omega))
       have hX7 := box_kept hk7 hXB.out (fun e => e.elim (fun e => by have := HLA.out.1; omega) (fun e => by have := HLA.out.2 _ e; omega))
       have y1 : w7.cell? ⟨X, 1, none⟩ = some (.int .i64 0) := by rw [cell_block _ _ _ _ _ _ hB7]; rfl
       have c1 : w7.cell? ⟨B, 1, none⟩ = some (fnV 133) := by rw [cell_block _ _ _ _ _ _ hX7]; rfl
       have hl7 : (eb ++ Mth.form op).length ≤ 4194000 := by have := (Mth.form_length op (by omega)).2; rw [List.length_append]; omega
       have HE7 := hid_of hE7
       clear hE7 hk7 hn7 hB7 hX7 hp7 HNUM HE5 x0 x1
       go_wp2_with fail
       refine (put0 _ _ w7).mono ?_
       rintro e w8 ⟨rfl, rfl⟩
       have HE8 : Hid (EnI w1 w8 w1.heap.size wv7 (.ok (encB (ys.take (i + 1))))) := by unfold Hid; rw [HBN.out, List.append_nil]; exact HE7.out
       clear y1 c1
       go_wp2
       go_roundw
       case rel => exact ⟨i + 1, _, by omega, by go_num, HE8.out, HGN.out⟩
       case measure => simp [intOf]; omega
      ·have hbv : (a == 0) = false := by simpa using hmay
       have HBD : Hid (encE ys = 112) := by
        have h1 : errI ⟨op, a⟩ = 112 := by rw [HERR.out, if_neg (by rw [show mayP 0 a = (a == 0) from rfl, hbv]; decide)]
        unfold Hid
        rw [HBAD.out (by rw [h1]; decide), h1]
       go_wp2_with fail
       refine (may0 a w5).mono ?_
       rintro e w6 ⟨rfl, rfl⟩
       rw [hbv]
       have HR : Hid (EncR ys w (.returned (.tuple #[.slice none 0 0, .int .i64 112])) w6) := ⟨HK1.out.trans HE5.out.kept, by rw [HBD.out, if_neg (by decide)]⟩
       clear x0 x1 c0
       go_wp2
       go_ret2
       exact HR.out
     ·have c0 : w5.cell? ⟨B, 0, none⟩ = some (fnV 135) := by rw [cell_block _ _ _ _ _ _ hX]; rfl
      have hXB := hid_of hX
      clear hX
      go_wp2_with fail
      refine (may1 a w5).mono ?_
      rintro e w6 ⟨rfl, rfl⟩
      have hz : errI ⟨op, a⟩ = 0 := by rw [HERR.out, if_pos (show mayP 1 a = true from rfl)]
      obtain ⟨hgn, hbn⟩ := HNEXT.out hz
      have HGN := hid_of hgn
      have HBN : Hid (encB (ys.take (i + 1)) = (eb ++ Mth.form op) ++ Mth.form (fold a)) := by unfold Hid; rw [hbn, HPUT.out, List.append_assoc]; rfl
      have HNUM := hid_of (num_s w1.heap.size wv _ op w6 HE5.out.ws hp0 hp1)
      rw [num_ok eb op hop0 hp1 (by omega)] at HNUM
      clear c0 hz hgn hbn
      go_wp2_with fail
      refine HNUM.out.mono ?_
      rintro e w7 hp7
      obtain ⟨rfl, wv7, hE7, hk7, hn7⟩ := HE5.out.put hp7
      have hB7 := box_kept hk7 HB5.out (fun e => e.elim (fun e => by have := HLA.out.1; omega) (fun e => by have := HLA.out.2 _ e; omega))
      have hX7 := box_kept hk7 hXB.out (fun e => e.elim (fun e => by have := HLA.out.1; omega) (fun e => by have := HLA.out.2 _ e; omega))
      have y1 : w7.cell? ⟨X, 1, none⟩ = some (.int .i64 a) := by rw [cell_block _ _ _ _ _ _ hB7]; rfl
      have c1 : w7.cell? ⟨B, 1, none⟩ = some (fnV 136) := by rw [cell_block _ _ _ _ _ _ hX7]; rfl
      have hl7 : (eb ++ Mth.form op).length ≤ 4194000 := by have := (Mth.form_length op (by omega)).2; rw [List.length_append]; omega
      have HPC := hid_of (put1 w1.heap.size wv7 _ a w7 hE7.ws ha0 ha1)
      rw [fold_ok _ a ha0 ha1 hl7] at HPC
      have HE7 := hid_of hE7
      clear hE7 hk7 hn7 hB7 hX7 hp7 HNUM HE5 x0 x1
      go_wp2_with fail
      refine HPC.out.mono ?_
      rintro e w8 hp8
      obtain ⟨rfl, wv8, hE8, -, -⟩ := HE7.out.put hp8
      have HE8 : Hid (EnI w1 w8 w1.heap.size wv8 (.ok (encB (ys.take (i + 1))))) := by unfold Hid; rw [HBN.out]; exact hE8
      clear hp8 hE8 HPC HE7
      clear y1 c1
      go_wp2
      go_roundw
      case rel => exact ⟨i + 1, _, by omega, by go_num, HE8.out, HGN.out⟩
      case measure => simp [intOf]; omega
     ·rw [kind_ge bx hm2] at hX
      have c0 : w5.cell? ⟨B, 0, none⟩ = some (.func (.func 140) #[] #[.pointer (some ⟨bx m, 0, none⟩)]) := by rw [cell_block _ _ _ _ _ _ hX]; rfl
      have hXB := hid_of hX
      clear hX
      have hbb := HO5.out.box m hm2 HM6.out
      have HV := hid_of (may_ge hm2 a)
      by_cases hmay : 0 ≤ a ∧ a < endOf m
      ·have hbv : (decide (0 ≤ a) && decide (a < endOf m)) = true := by simp [hmay]
       go_wp2_with fail
       refine (may2 a (endOf m) (bx m) w5 hbb).mono ?_
       rintro e w6 ⟨rfl, rfl⟩
       rw [hbv]
       have hz : errI ⟨op, a⟩ = 0 := by rw [HERR.out, if_pos (HV.out.trans hbv)]
       obtain ⟨hgn, hbn⟩ := HNEXT.out hz
       have HGN := hid_of hgn
       have HBN : Hid (encB (ys.take (i + 1)) = (eb ++ Mth.form op) ++ Mth.form a) := by unfold Hid; rw [hbn, HPUT.out, List.append_assoc, opB_ge hm2]
       have HNUM := hid_of (num_s w1.heap.size wv _ op w6 HE5.out.ws hp0 hp1)
       rw [num_ok eb op hop0 hp1 (by omega)] at HNUM
       clear c0 hz hgn hbn
       go_wp2_with fail
       refine HNUM.out.mono ?_
       rintro e w7 hp7
       obtain ⟨rfl, wv7, hE7, hk7, hn7⟩ := HE5.out.put hp7
       have hB7 := box_kept hk7 HB5.out (fun e => e.elim (fun e => by have := HLA.out.1; omega) (fun e => by have := HLA.out.2 _ e; omega))
       have hX7 := box_kept hk7 hXB.out (fun e => e.elim (fun e => by have := HLA.out.1; omega) (fun e => by have := HLA.out.2 _ e; omega))
       have y1 : w7.cell? ⟨X, 1, none⟩ = some (.int .i64 a) := by rw [cell_block _ _ _ _ _ _ hB7]; rfl
       have c1 : w7.cell? ⟨B, 1, none⟩ = some (fnV 141) := by rw [cell_block _ _ _ _ _ _ hX7]; rfl
       have hl7 : (eb ++ Mth.form op).length ≤ 4194000 := by have := (Mth.form_length op (by omega)).2; rw [List.length_append]; omega
       have HPC := hid_of (put2 w1.heap.size wv7 _ a w7 hE7.ws ha0 ha1)
       rw [num_ok _ a hmay.1 ha1 hl7] at HPC
       have HE7 := hid_of hE7
       clear hE7 hk7 hn7 hB7 hX7 hp7 HNUM HE5 x0 x1
       go_wp2_with fail
       refine HPC.out.mono ?_
       rintro e w8 hp8
       obtain ⟨rfl, wv8, hE8, -, -⟩ := HE7.out.put hp8
       have HE8 : Hid (EnI w1 w8 w1.heap.size wv8 (.ok (encB (ys.take (i + 1))))) := by unfold Hid; rw [HBN.out]; exact hE8
       clear hp8 hE8 HPC HE7
       clear y1 c1
       go_wp2
       go_roundw
       case rel => exact ⟨i + 1, _, by omega, by go_num, HE8.out, HGN.out⟩
       case measure => simp [intOf]; omega
      ·have hbv : (decide (0 ≤ a) && decide (a < endOf m)) = false := by rw [Bool.and_eq_false_iff, decide_eq_false_iff_not, decide_eq_false_iff_not]; omega
       have HBD : Hid (encE ys = 112) := by
        have h1 : errI ⟨op, a⟩ = 112 := by rw [HERR.out, if_neg (by rw [HV.out, hbv]; decide)]
        unfold Hid
        rw [HBAD.out (by rw [h1]; decide), h1]
       go_wp2_with fail
       refine (may2 a (endOf m) (bx m) w5 hbb).mono ?_
       rintro e w6 ⟨rfl, rfl⟩
       rw [hbv]
       have HR : Hid (EncR ys w (.returned (.tuple #[.slice none 0 0, .int .i64 112])) w6) := ⟨HK1.out.trans HE5.out.kept, by rw [HBD.out, if_neg (by decide)]⟩
       clear x0 x1 c0
       go_wp2
       go_ret2
       exact HR.out
    ·rw [row_not hrow]
     have HBD : Hid (encE ys = 111) := by
      have h1 : errI ⟨op, a⟩ = 111 := if_neg (by rw [row_not hrow]; decide)
      unfold Hid
      rw [HBAD.out (by rw [h1]; decide), h1]
     have HR : Hid (EncR ys w (.returned (.tuple #[.slice none 0 0, .int .i64 111])) w5) := ⟨HK1.out.trans HE5.out.kept, by rw [HBD.out, if_neg (by decide)]⟩
     clear x0 x1 hrow hX
     go_wp2
     go_ret2
     exact HR.out
   ·have hnl : (n : Int) ≤ (i : Int) := by omega
    have hie : i = n := by omega
    have HZ : Hid (encE ys = 0 ∧ ys.take i = ys) := by
     have ht : ys.take i = ys := List.take_of_length_le (by rw [← HN.out]; omega)
     rw [ht] at hgood
     exact ⟨by rw [HE.out]; exact (firstBad_zero ys).2 hgood, ht⟩
    rw [HZ.out.2] at hE
    have HDN := hid_of (done_s w1.heap.size wv _ wr hE.ws)
    have HKE := hid_of (HK1.out.trans hE.kept)
    have hs1 : w.heap.size ≤ wr.heap.size := HKE.out.size
    clear hE hgood hie
    go_wp2_with fail
    refine HDN.out.mono ?_
    rintro e w9 ⟨v', rfl, ho, hbl⟩
    have HR : Hid (EncR ys w (.returned (.tuple #[v', .int .i64 0])) w9) := ⟨HKE.out.step (kept_of_below hbl) (fun i hi e => by omega), by rw [if_pos HZ.out.1]; exact ⟨v', rfl, own_less ho hs1⟩⟩
    clear ho hbl HDN
    go_wp2
    go_ret2
    exact HR.out
end Go.Proofs.YtpfmhibdmehlcaaGreatDoor
namespace Go.Proofs.YtpfmhibdmehlcaaGreatDoor
open Go.RowKit Go.Deep
set_option linter.unusedVariables false
set_option linter.unusedSimpArgs false
set_option maxRecDepth 100000
theorem size52 : (Tryz.prog.info? 48).map (·.size) = some 2 := by kernel_rfl
theorem two_one (a b : Value) (ha : a.oneCell' = true) (hb : b.oneCell' = true) : #[a, b].all (·.oneCell') = true := by
 rw [Array.all_eq_true_iff_forall_mem]
 intro v hv
 simp at hv
 rcases hv with rfl | rfl <;> assumption
theorem Tryz.info48 : (Tryz.prog.info? 48).map (fun i => (i.zero, i.size, i.bytes)) = some (some (.agg #[.int .i64 0, .int .i64 0]), 2, 16) := by kernel_rfl
theorem wp_app2 {w : World} {ops : Array Oper} {rest : List Oper} {o : Oper} {a : Act} {Q : Exit → Act → World → Prop} (hgd : o.guard = none) (s x : Operand) (t u : TypeId)
  (ho : o.op = .call { callee := .builtin .append, args := #[s, x], argTypes := #[t, u] }) (v bv : Value) (hs : a.eval s = v) (hx : a.eval x = bv) (v' : Value) (w' : World)
  (hr : (Builtin.append_ #[t, u] o.type #[v, bv]).run Tryz.prog w = .ok v' w') (h : wpList Tryz.prog ops Q rest (a.put o.dst v') w') : wpList Tryz.prog ops Q (o :: rest) a w := by
 refine wpList_plain hgd fun K hK => ?_
 unfold Oper.wp execOp
 simp only [ho, resolve, invoke, builtin, Sem.run_bind, Sem.run_pure, Result.andThen_ok, List.map_toArray, List.map_cons, List.map_nil, hs, hx, hr]
 exact hK _ _ h
def sameI : List IN → List IN → Bool
 | [], [] => true
 | y :: ys, z :: zs => (y.op == z.op && y.a == z.a) && sameI ys zs
 | _, _ => false
theorem sameI_at : ∀ {ys zs : List IN} {k : Nat} {y z : IN}, ys[k]? = some y → zs[k]? = some z → sameI (ys.drop k) (zs.drop k) = ((y.op == z.op && y.a == z.a) && sameI (ys.drop (k + 1)) (zs.drop (k + 1)))
 | ys, zs, k, y, z, h1, h2 => by
  obtain ⟨l1, e1⟩ := List.getElem?_eq_some_iff.1 h1
  obtain ⟨l2, e2⟩ := List.getElem?_eq_some_iff.1 h2
  rw [List.drop_eq_getElem_cons l1, List.drop_eq_getElem_cons l2, e1, e2]
  rfl
theorem sameI_len : ∀ {ys zs : List IN}, ys.length ≠ zs.length → sameI ys zs = false
 | [], [], h => absurd rfl h
 | [], z :: zs, _ => rfl
 | y :: ys, [], _ => rfl
 | y :: ys, z :: zs, h => by
  rw [sameI, sameI_len (ys := ys) (zs := zs) (by simpa using h), Bool.and_false]
theorem sameI_refl : ∀ ys : List IN, sameI ys ys = true
 | [] => rfl
 | y :: ys => by rw [sameI, sameI_refl ys]; simp
theorem fields52 : Tryz.prog.underlying 48 = some (.struct (Tryz.prog.fieldsOf 48)) := by kernel_rfl
theorem held52 : Tryz.prog.stoodInHeld 48 = false := by kernel_rfl
theorem eq_fields2 (d : Nat) (xs ys : Array Value) (f0 f1 : Field) (h0 : f0.name ≠ "_") (h1 : f1.name ≠ "_") (a0 a1 b0 b1 : Value) (w : World) (q0 q1 : Bool)
  (pa0 : (part f0.type xs f0.offset).run Tryz.prog w = .ok a0 w) (pa1 : (part f1.type xs f1.offset).run Tryz.prog w = .ok a1 w)
  (pb0 : (part f0.type ys f0.offset).run Tryz.prog w = .ok b0 w) (pb1 : (part f1.type ys f1.offset).run Tryz.prog w = .ok b1 w)
  (e0 : (Op.equalIn d f0.type a0 b0).run Tryz.prog w = .ok q0 w) (e1 : (Op.equalIn d f1.type a1 b1).run Tryz.prog w = .ok q1 w) :
  (Op.eqFields d xs ys [f0, f1]).run Tryz.prog w = .ok (q0 && q1) w := by
 simp only [Op.eqFields, if_pos h0, if_pos h1, Sem.run_bind, pa0, pb0, e0, Result.andThen_ok]
 cases q0
 ·simp [Sem.run_pure]
 ·simp only [Bool.not_true, Bool.false_eq_true, if_false, Sem.run_bind, pa1, pb1, e1, Result.andThen_ok]
  cases q1 <;> simp [Sem.run_pure]
theorem run_eq52 (w : World) (a b c d : Int) : (Op.equalIn 10000 48 (.agg #[.int .i64 a, .int .i64 b]) (.agg #[.int .i64 c, .int .i64 d])).run Tryz.prog w = .ok (a == c && b == d) w := by
 rw [run_equalIn_struct w 9999 48 _ _ fields52 held52]
 simp only [Program.fieldsOf, Tryz.underlying48]
 exact eq_fields2 9999 _ _ _ _ (by decide) (by decide) _ _ _ _ w _ _ (by simp [part, Tryz.isAgg3]) (by simp [part, Tryz.isAgg3]) (by simp [part, Tryz.isAgg3]) (by simp [part, Tryz.isAgg3])
  (run_equalIn_int w 9998 3 .i64 .i64 _ _ Tryz.underlying3) (run_equalIn_int w 9998 3 .i64 .i64 _ _ Tryz.underlying3)
theorem run_neq52 (w : World) (a b c d : Int) : (binOp .neq 48 (.agg #[.int .i64 a, .int .i64 b]) (.agg #[.int .i64 c, .int .i64 d])).run Tryz.prog w = .ok (.bool (!(a == c && b == d))) w := by
 rw [run_neq_struct, run_eq52]
 rfl
end Go.Proofs.YtpfmhibdmehlcaaGreatDoor
namespace Go.Proofs.YtpfmhibdmehlcaaGreatDoor
open Go.RowKit
set_option linter.unusedVariables false
set_option linter.unusedSimpArgs false
structure FN where
 a : Int
 l : Int
 r : Int
 code : List IN
structure PG where
 mem : Int
 data : List Int
 fns : List FN
structure FN.Ok (f : FN) : Prop where
 a : -9223372036854775808 ≤ f.a ∧ f.a < 9223372036854775808
 l : -9223372036854775808 ≤ f.l ∧ f.l < 9223372036854775808
 r : -9223372036854775808 ≤ f.r ∧ f.r < 9223372036854775808
 code : ∀ y ∈ f.code, y.Ok
 len : f.code.length * 16 ≤ 140737488351232
structure PG.Ok (p : PG) : Prop where
 mem : -9223372036854775808 ≤ p.mem ∧ p.mem < 9223372036854775808
 data : BytesOk p.data
 fns : ∀ f ∈ p.fns, f.Ok
 len : p.fns.length * 48 ≤ 140737488351232
def FN.cells (f : FN) (cv : Value) : List Value := [.int .i64 f.a, .int .i64 f.l, .int .i64 f.r, cv]
def FnAt (w : World) (B g o : Nat) (f : FN) : Prop := ∃ cv, w.rangeAt g o (f.cells cv) ∧ RowI w cv f.code ∧ ∀ q, cv.ownBlock = some q → 0 < f.code.length → q < B
def RowF (w : World) (B : Nat) (v : Value) (fs : List FN) : Prop :=
 (fs = [] ∧ ∃ ao c, v = .slice ao 0 c) ∨ ∃ g o c, v = .slice (some ⟨g, o, none⟩) fs.length c ∧ g < B ∧ ∀ i f, fs[i]? = some f → FnAt w B g (o + i * 4) f
def PgIs (w : World) (B : Nat) (v : Value) (p : PG) : Prop :=
 ∃ dv fv, v = .agg #[.int .i64 p.mem, dv, fv] ∧ IsB w dv p.data ∧ (∀ q, dv.ownBlock = some q → q < B) ∧ RowF w B fv p.fns
theorem RowI.keptB {S : Nat → Prop} {w w' : World} {v : Value} {ys : List IN} (h : RowI w v ys) (hk : Kept S w w') (hS : ∀ g, v.ownBlock = some g → 0 < ys.length → ¬ S g) : RowI w' v ys := by
 by_cases h0 : 0 < ys.length
 ·exact h.kept hk (fun g hg => hS g hg h0)
 ·have e : ys = [] := List.length_eq_zero_iff.1 (by omega)
  subst e
  obtain ⟨ao, c, rfl⟩ := h.shape
  exact .inl ⟨rfl, ao, c, rfl⟩
theorem FnAt.kept {S : Nat → Prop} {w w' : World} {B g o : Nat} {f : FN} (h : FnAt w B g o f) (hk : Kept S w w') (hg : g < B) (hS : ∀ q, q < B → ¬ S q) : FnAt w' B g o f := by
 obtain ⟨cv, h1, h2, h3⟩ := h
 exact ⟨cv, fun j v hj => hk.cell (h1 j v hj) (hS g hg), h2.keptB hk (fun q hq h0 => hS q (h3 q hq h0)), h3⟩
theorem RowF.kept {S : Nat → Prop} {w w' : World} {B : Nat} {v : Value} {fs : List FN} (h : RowF w B v fs) (hk : Kept S w w') (hS : ∀ q, q < B → ¬ S q) : RowF w' B v fs := by
 rcases h with h | ⟨g, o, c, e, hg, h⟩
 ·exact .inl h
 ·exact .inr ⟨g, o, c, e, hg, fun i f hf => (h i f hf).kept hk hg hS⟩
theorem RowF.shape {w : World} {B : Nat} {v : Value} {fs : List FN} (h : RowF w B v fs) : ∃ ao c, v = .slice ao fs.length c := by
 rcases h with ⟨rfl, ao, c, rfl⟩ | ⟨g, o, c, rfl, _⟩
 ·exact ⟨ao, c, rfl⟩
 ·exact ⟨_, c, rfl⟩
theorem RowF.at {w : World} {B : Nat} {ao : Option Addr} {n c : Nat} {fs : List FN} (h : RowF w B (.slice ao n c) fs) {i : Nat} (hi : i < fs.length) : ∃ g o f, ao = some ⟨g, o, none⟩ ∧ g < B ∧ fs[i]? = some f ∧ FnAt w B g (o + i * 4) f := by
 rcases h with ⟨e, _⟩ | ⟨g, o, c', e, hg, h⟩
 ·rw [e] at hi; simp at hi
 ·cases e
  exact ⟨g, o, fs[i], rfl, hg, List.getElem?_eq_getElem hi, h i _ (List.getElem?_eq_getElem hi)⟩
theorem PgIs.kept {S : Nat → Prop} {w w' : World} {B : Nat} {v : Value} {p : PG} (h : PgIs w B v p) (hk : Kept S w w') (hS : ∀ q, q < B → ¬ S q) : PgIs w' B v p := by
 obtain ⟨dv, fv, e, h1, h2, h3⟩ := h
 exact ⟨dv, fv, e, h1.kept hk (fun q hq => hS q (h2 q hq)), h2, h3.kept hk hS⟩
def badF (f : FN) : Bool := decide (f.a < 0 ∨ 16 < f.a ∨ f.l < f.a ∨ 64 < f.l ∨ f.r < 0 ∨ 1 < f.r ∨ f.code.length < 1 ∨ 4096 < f.code.length)
def errF (f : FN) : Int := if badF f = true then 121 else encE f.code
def firstF : List FN → Int
 | [] => 0
 | f :: fs => if errF f = 0 then firstF fs else errF f
def badP (p : PG) : Bool := decide (p.mem < 0 ∨ 65536 < p.mem ∨ p.mem < p.data.length ∨ p.fns.length < 1 ∨ 64 < p.fns.length)
def checkP (p : PG) : Int := if badP p = true then 121 else firstF p.fns
theorem firstF_bad : ∀ (fs : List FN) (i : Nat) (f : FN), (∀ x ∈ fs.take i, errF x = 0) → fs[i]? = some f → errF f ≠ 0 → firstF fs = errF f
 | [], i, f, _, h, _ => by simp at h
 | g :: fs, 0, f, _, h, hf => by
  have e : g = f := by simpa using h
  subst e
  rw [firstF, if_neg hf]
 | g :: fs, i + 1, f, ht, h, hf => by
  have h0 : errF g = 0 := ht g (by simp)
  rw [firstF, if_pos h0]
  exact firstF_bad fs i f (fun x hx => ht x (by simp [hx])) (by simpa using h) hf
theorem firstF_good : ∀ (fs : List FN), (∀ x ∈ fs, errF x = 0) → firstF fs = 0
 | [], _ => rfl
 | g :: fs, h => by rw [firstF, if_pos (h g (by simp))]; exact firstF_good fs (fun x hx => h x (by simp [hx]))
theorem firstF_zero : ∀ (fs : List FN), firstF fs = 0 → ∀ x ∈ fs, errF x = 0
 | [], _, x, hx => by simp at hx
 | g :: fs, h, x, hx => by
  rw [firstF] at h
  by_cases h0 : errF g = 0
  ·rw [if_pos h0] at h
   rcases List.mem_cons.1 hx with rfl | hx
   ·exact h0
   ·exact firstF_zero fs h x hx
  ·rw [if_neg h0] at h; exact absurd h h0
theorem take_good {fs : List FN} {i : Nat} {f : FN} (h : ∀ x ∈ fs.take i, errF x = 0) (hf : fs[i]? = some f) (h0 : errF f = 0) : ∀ x ∈ fs.take (i + 1), errF x = 0 := by
 intro x hx
 rw [List.take_add_one, hf] at hx
 rcases List.mem_append.1 hx with hx | hx
 ·exact h x hx
 ·have : x = f := by simpa using hx
  rw [this]; exact h0
theorem fn_read {w : World} {B g o : Nat} {f : FN} (h : FnAt w B g o f) : ∃ ao c, w.cell? ⟨g, o, none⟩ = some (.int .i64 f.a) ∧ w.cell? ⟨g, o + 1, none⟩ = some (.int .i64 f.l) ∧ w.cell? ⟨g, o + 2, none⟩ = some (.int .i64 f.r) ∧ w.cell? ⟨g, o + 3, none⟩ = some (.slice ao f.code.length c) ∧ RowI w (.slice ao f.code.length c) f.code ∧ ∀ q, (Value.slice ao f.code.length c).ownBlock = some q → 0 < f.code.length → q < B := by
 obtain ⟨cv, h1, h2, h3⟩ := h
 obtain ⟨ao, c, rfl⟩ := h2.shape
 exact ⟨ao, c, h1 0 _ rfl, h1 1 _ rfl, h1 2 _ rfl, h1 3 _ rfl, h2, h3⟩
theorem bad_cases (p : PG) : (p.mem < 0 ∨ (0 ≤ p.mem ∧ 65536 < p.mem) ∨ (0 ≤ p.mem ∧ p.mem ≤ 65536 ∧ p.mem < p.data.length) ∨ (0 ≤ p.mem ∧ p.mem ≤ 65536 ∧ p.data.length ≤ p.mem ∧ p.fns.length < 1) ∨ (0 ≤ p.mem ∧ p.mem ≤ 65536 ∧ p.data.length ≤ p.mem ∧ 1 ≤ p.fns.length ∧ 64 < p.fns.length)) ∧ badP p = true ∨ (0 ≤ p.mem ∧ p.mem ≤ 65536 ∧ p.data.length ≤ p.mem ∧ 1 ≤ p.fns.length ∧ p.fns.length ≤ 64) ∧ badP p = false := by
 unfold badP
 by_cases h : p.mem < 0 ∨ 65536 < p.mem ∨ p.mem < p.data.length ∨ p.fns.length < 1 ∨ 64 < p.fns.length
 ·left
  exact ⟨by omega, by simpa using h⟩
 ·right
  exact ⟨by omega, by simpa using h⟩
theorem badF_cases (f : FN) : (f.a < 0 ∨ (0 ≤ f.a ∧ 16 < f.a) ∨ (0 ≤ f.a ∧ f.a ≤ 16 ∧ f.l < f.a) ∨ (0 ≤ f.a ∧ f.a ≤ 16 ∧ f.a ≤ f.l ∧ 64 < f.l) ∨ (0 ≤ f.a ∧ f.a ≤ 16 ∧ f.a ≤ f.l ∧ f.l ≤ 64 ∧ f.r < 0) ∨ (0 ≤ f.a ∧ f.a ≤ 16 ∧ f.a ≤ f.l ∧ f.l ≤ 64 ∧ 0 ≤ f.r ∧ 1 < f.r) ∨ (0 ≤ f.a ∧ f.a ≤ 16 ∧ f.a ≤ f.l ∧ f.l ≤ 64 ∧ 0 ≤ f.r ∧ f.r ≤ 1 ∧ f.code.length < 1) ∨ (0 ≤ f.a ∧ f.a ≤ 16 ∧ f.a ≤ f.l ∧ f.l ≤ 64 ∧ 0 ≤ f.r ∧ f.r ≤ 1 ∧ 1 ≤ f.code.length ∧ 4096 < f.code.length)) ∧ errF f = 121 ∨
  (0 ≤ f.a ∧ f.a ≤ 16 ∧ f.a ≤ f.l ∧ f.l ≤ 64 ∧ 0 ≤ f.r ∧ f.r ≤ 1 ∧ 1 ≤ f.code.length ∧ f.code.length ≤ 4096) ∧ errF f = encE f.code := by
 unfold errF badF
 by_cases h : f.a < 0 ∨ 16 < f.a ∨ f.l < f.a ∨ 64 < f.l ∨ f.r < 0 ∨ 1 < f.r ∨ f.code.length < 1 ∨ 4096 < f.code.length
 ·left
  refine ⟨by omega, ?_⟩
  rw [if_pos (by simpa using h)]
 ·right
  refine ⟨by omega, ?_⟩
  rw [if_neg (by simpa using h)]
end Go.Proofs.YtpfmhibdmehlcaaGreatDoor

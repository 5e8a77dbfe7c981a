import Derived.Test.YtcahibbfejomcaaGreatDoorTTx32
namespace Go.Proofs.YtcahibbfejomcaaGreatDoor
open Go.RowKit
set_option linter.unusedVariables false
set_option linter.unusedSimpArgs false
set_option maxRecDepth 100000
def lblD (q : Bool) (k : Nat) : List Value := if q then .int .u8 76 :: Lib.byteCells (Lib.itoa (k : Int)) ++ Lib.strCells ⟨#[58, 10]⟩ else []
set_option maxHeartbeats 4000000 in
theorem labelB_any (ao : Option Addr) (m c : Nat) (zs : List Value) (gb n cb k : Nat) (q : Bool) (hkn : k < n) (hkb : k ≤ 1000000) (w0 w1 wr : World) (hG0 : 8 ≤ w0.heap.size) (hG : Gl w0) (h : Bs w0 w1 wr ao m c zs) (hm : m ≤ 1000000000000) (hc : wr.cell? ⟨gb, k, none⟩ = some (.bool q)) :
  Calls Tryz.prog 55 #[.slice ao m c, .slice (some ⟨gb, 0, none⟩) n cb, .int .i64 (k : Int)] wr fun e w' => ∃ ao' m' c', e = .returned (.slice ao' m' c') ∧ Bs w0 w1 w' ao' m' c' (zs ++ lblD q k) := by
 have hkI : (k : Int) < (n : Int) := by omega
 have HH := hid_of h
 have HM := hid_of hm
 have HNB := hid_of (nameB_big ao m c zs 76 (k : Int) (by omega) (by omega) w0 w1 wr hG0 hG h (by omega))
 have HIL := hid_of (itoa_le (k : Int) (by omega) (by omega))
 clear hkn hkb hG0 hG h hm
 cases q
 ·have HF : Hid (Bs w0 w1 wr ao m c (zs ++ lblD false k)) := by
   show Bs w0 w1 wr ao m c (zs ++ lblD false k)
   simpa [lblD] using HH.out
  go_enter Tryz.func55, Tryz.ntmps55
  go_wp2
  go_ret
  exact ⟨_, _, _, rfl, HF.out⟩
 ·go_enter Tryz.func55, Tryz.ntmps55
  go_wp2_with fail
  refine HNB.out.mono ?_
  rintro e w7 ⟨a7, n7, c7, rfl, hb7⟩
  have hn7 : n7 ≤ 1000000000100 := by
   have h1 := HH.out.step hb7
   have h2 := HM.out
   have h3 := HIL.out
   simp [Lib.byteCells_length] at h1
   omega
  obtain ⟨a8, n8, c8, w8, hr8, hb8⟩ := hb7.pushS ⟨#[58, 10]⟩ (by show n7 + 2 ≤ 140737488355328; omega)
  have HR8 := hid_of hr8
  have HF : Hid (Bs w0 w1 w8 a8 n8 c8 (zs ++ lblD true k)) := by
   show Bs w0 w1 w8 a8 n8 c8 (zs ++ lblD true k)
   simpa [lblD] using hb8
  clear hb7 hn7 hr8 hb8 HNB
  go_wp2_with (at_builtin; refine wp_app2 rfl (.tmp 15) (.const (.string ⟨#[58, 10]⟩)) 22 9 rfl _ _ rfl rfl _ w8 HR8.out ?_)
  go_ret
  exact ⟨_, _, _, rfl, HF.out⟩
set_option maxHeartbeats 4000000 in
theorem operand_any (op a : Int) (h0 : -9223372036854775808 ≤ op) (h1 : op < 9223372036854775808) (w : World) : Calls Tryz.prog 69 #[.agg #[.int .i64 op, .int .i64 a]] w fun e w' => e = .returned (.int .i64 (rowS insL op).o) ∧ Kept (fun _ => False) w w' := by
 have hka : Kept (fun _ => False) w (w.alloc (.cells #[.int .i64 op, .int .i64 a] 72)) := (Kept.refl _ _).alloc _
 have c0 := cell_block _ _ 0 _ _ _ (heap_alloc_new w (.cells #[.int .i64 op, .int .i64 a] 72))
 have HO1 := hid_of (of_any op (w.alloc (.cells #[.int .i64 op, .int .i64 a] 72)) h0 h1)
 have HK := hid_of hka
 clear hka h0 h1
 generalize isRow insL op = iq at *
 generalize rowS insL op = sh at *
 obtain ⟨nm, o, tt, gg⟩ := sh
 have HO : Hid (Calls Tryz.prog 70 #[.int .i64 op] (w.alloc (.cells #[.int .i64 op, .int .i64 a] 72)) fun e w' => e = .returned (.tuple #[.agg #[.string nm, .int .i64 o, .int .i64 tt, .int .i64 gg], .bool iq]) ∧ Kept (fun _ => False) (w.alloc (.cells #[.int .i64 op, .int .i64 a] 72)) w') := HO1.out
 clear HO1
 go_enter Tryz.func69, Tryz.ntmps69
 go_wp2_with fail
 refine HO.out.mono ?_
 rintro e w2 ⟨rfl, hk2⟩
 have hkb : Kept (fun _ => False) w2 (w2.alloc (.cells #[.string nm, .int .i64 o, .int .i64 tt, .int .i64 gg] 148)) := (Kept.refl _ _).alloc _
 have c1 := cell_block _ _ 1 _ _ _ (heap_alloc_new w2 (.cells #[.string nm, .int .i64 o, .int .i64 tt, .int .i64 gg] 148))
 have HK2 := hid_of (HK.out.trans (hk2.trans hkb))
 clear hk2 hkb HK c0 HO
 go_wp2
 go_ret
 exact ⟨rfl, HK2.out⟩
theorem Tryz.info4 : (Tryz.prog.info? 4).map (fun i => (i.zero, i.size, i.bytes)) = some (some (.bool false), 1, 1) := by kernel_rfl
def zerB (n : Nat) : Array Value := madeCells (Value.bool false).cells n
theorem zerB_eq (n : Nat) : zerB n = ((List.replicate n false).map Value.bool).toArray := by
 apply Array.ext
 ·simp [zerB]
  exact size_madeCells _ n
 ·intro i h1 h2
  simp [zerB, madeCells, Value.cells, Nat.mod_one]
theorem makeB_any (W : World) (l : Nat) (h : l ≤ 140737488355328) : (Instr.makeSlice 126 (.int .i64 (l : Int)) (.int .i64 (l : Int))).run Tryz.prog W = .ok (.slice (some ⟨W.heap.size, 0, none⟩) l l) (W.alloc (.cells (zerB l) 4)) := by
 obtain ⟨i0, hi, hz0, hz1, hz2⟩ := info_parts Tryz.info4
 have := run_make (P := Tryz.prog) W 126 4 i0 (.bool false) Tryz.underlying126 hi hz0 .i64 .i64 (l : Int) (l : Int) (by omega) (by omega) (by rw [hz2]; omega) (by omega)
 simpa [zerB, hz1] using this
def aimS (n : Nat) (l : List Bool) (x : IN) : List Bool := if (rowS insL x.op).o = 3 ∧ x.a < (n : Int) + 1 then l.set x.a.toNat true else l
def aimsD (ys : List IN) : List Bool := ys.foldl (aimS ys.length) (List.replicate (ys.length + 1) false)
theorem aim_len (n : Nat) (l : List Bool) (x : IN) : (aimS n l x).length = l.length := by unfold aimS; split <;> simp
theorem aims_len (n : Nat) : ∀ (ys : List IN) (l : List Bool), (ys.foldl (aimS n) l).length = l.length
 | [], l => rfl
 | x :: ys, l => by rw [List.foldl_cons, aims_len n ys, aim_len]
set_option maxHeartbeats 8000000 in
theorem aims_any (v : Value) (ys : List IN) (hl : ys.length ≤ 1000000) (hok : ∀ y ∈ ys, y.Ok) (hj : ∀ y ∈ ys, (rowS insL y.op).o = 3 → 0 ≤ y.a) (w : World) (hr : RowI w v ys) :
  Calls Tryz.prog 54 #[v] w fun e w' => ∃ gb, e = .returned (.slice (some ⟨gb, 0, none⟩) (ys.length + 1) (ys.length + 1)) ∧ w'.heap[gb]? = some (.cells ((aimsD ys).map Value.bool).toArray 4 (0, 0)) ∧ w.heap.size ≤ gb ∧ Kept (fun _ => False) w w' := by
 obtain ⟨ao, vc, rfl⟩ := hr.shape
 obtain ⟨n, hn⟩ := nmd (ys.length)
 have HR : Hid (∀ (i : Nat) (h : i < ys.length), ∃ g o, ao = some ⟨g, o, none⟩ ∧ w.cell? ⟨g, o + i * 2, none⟩ = some (.int .i64 (ys[i]'h).op) ∧ w.cell? ⟨g, o + i * 2 + 1, none⟩ = some (.int .i64 (ys[i]'h).a)) := fun i h => by
  rcases hr with ⟨h0, _⟩ | ⟨g, o, c, hv, hc⟩
  ·subst h0
   exact absurd h (Nat.not_lt_zero _)
  ·cases hv
   have := hc i (ys[i]'h) (List.getElem?_eq_getElem h)
   exact ⟨g, o, rfl, this 0 _ rfl, this 1 _ rfl⟩
 have HOK : Hid (∀ (i : Nat) (h : i < ys.length), (ys[i]'h).Ok ∧ ((rowS insL (ys[i]'h).op).o = 3 → 0 ≤ (ys[i]'h).a)) := fun i h => ⟨hok _ (List.getElem_mem h), hj _ (List.getElem_mem h)⟩
 have HST : Hid (∀ (i : Nat) (h : i < ys.length), (ys.take (i + 1)).foldl (aimS n) (List.replicate (n + 1) false) = aimS n ((ys.take i).foldl (aimS n) (List.replicate (n + 1) false)) (ys[i]'h)) := fun i h => by
  rw [List.take_succ_eq_append_getElem h, List.foldl_append]
  rfl
 have HAD : Hid (aimsD ys = ys.foldl (aimS n) (List.replicate (n + 1) false)) := by rw [hn]; rfl
 have HN := hid_of hn
 have HL : Hid (n ≤ 1000000) := by rw [hn]; exact hl
 rw [← hn]
 have hmk := makeB_any w (n + 1) (by have := HL.out; omega)
 rw [zerB_eq, show ((n + 1 : Nat) : Int) = (n : Int) + 1 from rfl] at hmk
 have hka : Kept (fun _ => False) w (w.alloc (.cells ((List.replicate (n + 1) false).map Value.bool).toArray 4)) := (Kept.refl _ _).alloc _
 have HX := hid_of (heap_alloc_new w (.cells ((List.replicate (n + 1) false).map Value.bool).toArray 4))
 have HK := hid_of hka
 have hw1 : IntKind.i64.wrap ((n : Int) + 1) = (n : Int) + 1 := by have := HL.out; simp [IntKind.wrap, IntKind.bits, IntKind.signed]; omega
 clear hka hr hok hj hl hn
 go_enter Tryz.func54, Tryz.ntmps54
 go_wp2_with fail
 rw [show Array.replicate (n + 1) (Value.bool false) = ((List.replicate (n + 1) false).map Value.bool).toArray by simp]
 have HGB : Hid (w.heap.size ≤ w.heap.size) := Nat.le_refl _
 obtain ⟨gb, hgb⟩ := nmd (w.heap.size)
 rw [← hgb] at HX ⊢
 have HGB : Hid (w.heap.size ≤ gb) := by rw [hgb]; exact Nat.le_refl _
 clear hgb hmk hw1
 generalize w.alloc (.cells ((List.replicate (n + 1) false).map Value.bool).toArray 4) = w1 at *
 go_loopw [12] (fun iv wr => ∃ (i : Nat), iv = .int .i64 (i : Int) ∧ Hid (i ≤ n) ∧ Hid (Kept (fun _ => False) w wr) ∧ Hid (wr.heap[gb]? = some (.cells (((ys.take i).foldl (aimS n) (List.replicate (n + 1) false)).map Value.bool).toArray 4 (0, 0)))) (fun iv _ => n - (intOf iv).toNat)
 case atStart => exact ⟨0, rfl, Nat.zero_le _, HK, HX⟩
 case round =>
  obtain ⟨i, rfl, HI, HKr, HXr⟩ := hrel
  clear HK HX
  by_cases hlt : i < n
  ·have hil : i < ys.length := by have := HN.out; omega
   obtain ⟨g, o, rfl, r0, r1⟩ := HR.out i hil
   have c0 := HKr.out.cell r0 id
   have c1 := HKr.out.cell r1 id
   obtain ⟨hok, hjj⟩ := HOK.out i hil
   have HS1 := hid_of (HST.out i hil)
   have hltI : (i : Int) < (n : Int) := by omega
   have hiB : (i : Int) < 1000000 := by have := HL.out; omega
   have hlen := aims_len n (ys.take i) (List.replicate (n + 1) false)
   rw [List.length_replicate] at hlen
   generalize ((ys.take i).foldl (aimS n) (List.replicate (n + 1) false)) = L at *
   generalize hx : ys[i]'hil = x at *
   obtain ⟨op, a⟩ := x
   simp only at c0 c1 hjj
   have hka : Kept (fun _ => False) wr (wr.alloc (.cells #[.int .i64 op, .int .i64 a] 72)) := (Kept.refl _ _).alloc _
   have HB := hid_of (heap_alloc_new wr (.cells #[.int .i64 op, .int .i64 a] 72))
   have HK2 := hid_of (HKr.out.trans hka)
   have HX2 := hid_of (box_kept hka HXr.out id)
   have HOP := hid_of (operand_any op a hok.1.1 hok.1.2 (wr.alloc (.cells #[.int .i64 op, .int .i64 a] 72)))
   have HSD : Hid (aimS n L ⟨op, a⟩ = if (rowS insL op).o = 3 ∧ a < (n : Int) + 1 then L.set a.toNat true else L) := rfl
   have HLN := hid_of hlen
   have HJJ := hid_of hjj
   clear hka r0 r1 hok hil hx hlen hjj HKr HXr
   generalize (rowS insL op).o = q at *
   go_upto_region 5 with fail
   clear c0 c1
   generalize wr.alloc (.cells #[.int .i64 op, .int .i64 a] 72) = w2 at *
   generalize wr.heap.size = gx at *
   obtain ⟨b0, b1, _⟩ := look2 HB.out
   by_cases hq : q = 3
   ·subst hq
    by_cases han : a < (n : Int) + 1
    ·obtain ⟨k, rfl⟩ := Int.eq_ofNat_of_zero_le (HJJ.out (by simp))
     have HAN := hid_of han
     go_wp2_with fail
     refine HOP.out.mono ?_
     rintro e w3 ⟨rfl, hk3⟩
     obtain ⟨b0, b1, _⟩ := look2 (box_kept hk3 HB.out id)
     have hx3 := box_kept hk3 HX2.out id
     have hkL : k < L.length := by have := HLN.out; omega
     have y0 : w3.cell? ⟨gb, k, none⟩ = some (.bool (L[k]'hkL)) := by rw [cell_block _ _ _ _ _ _ hx3]; simp [hkL]
     have f0 := frozen_block _ _ k _ _ hx3
     have HX4 : Hid ((w3.setCell ⟨gb, k, none⟩ (.bool true)).heap[gb]? = some (.cells ((aimS n L ⟨op, (k : Int)⟩).map Value.bool).toArray 4 (0, 0))) := by
      show _ = _
      rw [set_block _ _ _ _ _ _ hx3, HSD.out, if_pos ⟨by trivial, HAN.out⟩]
      simp
     have HK4 : Hid (Kept (fun _ => False) w (w3.setCell ⟨gb, k, none⟩ (.bool true))) := (HK2.out.trans hk3).setCell (.inl HGB.out) _
     clear hx3 hk3 HOP HX2 HK2
     go_wp2
     go_roundw
     case rel => exact ⟨i + 1, by go_num, hlt, HK4, by rw [HS1.out]; exact HX4.out⟩
     case measure => simp [intOf]; omega
    ·have HAN := hid_of han
     have hde : decide (a < (n : Int) + 1) = false := decide_eq_false han
     clear han
     go_wp2_with fail
     refine HOP.out.mono ?_
     rintro e w3 ⟨rfl, hk3⟩
     obtain ⟨b0, b1, _⟩ := look2 (box_kept hk3 HB.out id)
     have HX4 : Hid (w3.heap[gb]? = some (.cells ((aimS n L ⟨op, a⟩).map Value.bool).toArray 4 (0, 0))) := by
      show _ = _
      rw [HSD.out, if_neg (fun hh => by have h1 := hh.2; have h2 := HAN.out; omega)]
      exact box_kept hk3 HX2.out id
     have HK4 := hid_of (HK2.out.trans hk3)
     clear hk3 HOP HX2 HK2
     go_wp2
     go_roundw
     case rel => exact ⟨i + 1, by go_num, hlt, HK4, by rw [HS1.out]; exact HX4.out⟩
     case measure => simp [intOf]; omega
   ·have q3 : (q == 3) = false := by simp [hq]
    have HQ := hid_of hq
    clear hq
    go_wp2_with fail
    refine HOP.out.mono ?_
    rintro e w3 ⟨rfl, hk3⟩
    have HX4 : Hid (w3.heap[gb]? = some (.cells ((aimS n L ⟨op, a⟩).map Value.bool).toArray 4 (0, 0))) := by
     show _ = _
     rw [HSD.out, if_neg (fun hh => HQ.out hh.1)]
     exact box_kept hk3 HX2.out id
    have HK4 := hid_of (HK2.out.trans hk3)
    clear hk3 HOP HX2 HK2 b0 b1
    go_wp2
    go_roundw
    case rel => exact ⟨i + 1, by go_num, hlt, HK4, by rw [HS1.out]; exact HX4.out⟩
    case measure => simp [intOf]; omega
  ·have hnlt : ¬ (i : Int) < (n : Int) := by omega
   have HF : Hid (wr.heap[gb]? = some (.cells ((aimsD ys).map Value.bool).toArray 4 (0, 0))) := by
    have h := HXr.out
    have := HN.out
    have := HI.out
    rw [List.take_of_length_le (by omega), ← HAD.out] at h
    exact h
   go_wp2
   go_ret
   exact ⟨gb, rfl, HF.out, HGB.out, HKr.out⟩
end Go.Proofs.YtcahibbfejomcaaGreatDoor

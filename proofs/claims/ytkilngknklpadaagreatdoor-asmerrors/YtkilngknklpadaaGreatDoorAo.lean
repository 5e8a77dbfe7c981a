/-
  A function of one instruction as text.
-/
import Derived.Test.YtkilngknklpadaaGreatDoorAn
namespace Go.Proofs.YtkilngknklpadaaGreatDoor
open Go.RowKit
set_option linter.unusedVariables false
set_option linter.unusedSimpArgs false
set_option maxRecDepth 100000

/-- Bytes of one's own, while they grow. -/
structure Bs (w0 w1 wr : World) (ao : Option Addr) (m c : Nat) (zs : List Value) : Prop where
  own : wr.ownsRow w0.heap.size 5 1 (.slice ao m c) m zs
  kept : Kept (fun _ => False) w0 wr
  oth : Lib.OthersKept 5 none w1 wr
theorem Bs.len {w0 w1 wr : World} {ao : Option Addr} {m c : Nat} {zs : List Value} (h : Bs w0 w1 wr ao m c zs) : m = zs.length := by have := h.own.1; omega
theorem Bs.more {w0 w1 wr w' : World} {ao : Option Addr} {m c : Nat} {zs ys : List Value} {e : Ending} (h : Bs w0 w1 wr ao m c zs) (hb : BR w0 wr m zs ys e w') : ∃ ao' m' c', e = .returned (.slice ao' m' c') ∧ Bs w0 w1 w' ao' m' c' (zs ++ ys) := by
  obtain ⟨a', c', rfl, ho, hk, hot⟩ := hb
  exact ⟨a', _, c', rfl, ho, hk, h.oth.trans hot⟩
theorem Bs.same {w0 w1 wr w' : World} {ao : Option Addr} {m c : Nat} {zs : List Value} (h : Bs w0 w1 wr ao m c zs) (hk : Kept (fun _ => False) wr w') : Bs w0 w1 w' ao m c zs := ⟨hk.ownsRow h.own (fun _ _ f => f), h.kept.trans hk, h.oth.trans (oth5_kept hk)⟩
theorem Bs.byte {w0 w1 wr : World} {ao : Option Addr} {m c : Nat} {zs : List Value} (h : Bs w0 w1 wr ao m c zs) (x : Int) (hm : m ≤ 100000) : ∃ ao' m' c' w', (Builtin.append_ #[34, 34] 34 #[.slice ao m c, .slice (some ⟨wr.heap.size, 0, none⟩) 1 1]).run Tryz.prog (wr.alloc (.cells #[.int .u8 x] 5)) = .ok (.slice ao' m' c') w' ∧ Bs w0 w1 w' ao' m' c' (zs ++ [.int .u8 x]) := by
  obtain ⟨v', w', hr, ho, hk0, hk1, _⟩ := push_byte h.own (.int .u8 x) rfl h.kept (by omega)
  obtain ⟨a', c', rfl⟩ := ownsRow_shape ho
  exact ⟨a', _, c', w', hr, ho, hk0, h.oth.trans (oth5_of h.own hk1)⟩
theorem Bs.str {w0 w1 wr : World} {ao : Option Addr} {m c : Nat} {zs : List Value} (h : Bs w0 w1 wr ao m c zs) (s : ByteArray) (hm : m + s.size ≤ 100000) : ∃ ao' m' c' w', (Builtin.append_ #[34, 9] 34 #[.slice ao m c, .string s]).run Tryz.prog wr = .ok (.slice ao' m' c') w' ∧ Bs w0 w1 w' ao' m' c' (zs ++ Lib.strCells s) := by
  obtain ⟨v', w', hr, ho, hk0, hk1⟩ := push_str h.own s h.kept (by omega)
  obtain ⟨a', c', rfl⟩ := ownsRow_shape ho
  exact ⟨a', _, c', w', hr, ho, hk0, h.oth.trans (oth5_of h.own hk1)⟩
theorem Bs.gl {w0 w1 wr : World} {ao : Option Addr} {m c : Nat} {zs : List Value} (h : Bs w0 w1 wr ao m c zs) (hG : Gl w0) : Gl wr := hG.same h.kept
abbrev fnY : List Value := [.int .u8 102, .int .u8 117, .int .u8 110, .int .u8 99, .int .u8 32, .int .u8 102, .int .u8 48]
/-- What stands there behind k of the three numbers. -/
def hdY (k : Nat) : List Value := fnY ++ ([Value.int .u8 32, .int .u8 48, .int .u8 32, .int .u8 48, .int .u8 32, .int .u8 49].take (2 * k))
theorem itoa0 : Lib.itoa 0 = [48] := by kernel_rfl
theorem itoa1 : Lib.itoa 1 = [49] := by kernel_rfl
theorem hdY_next0 : hdY 0 ++ (.int .u8 32 :: Lib.byteCells (Lib.itoa 0)) = hdY 1 := by rw [itoa0]; rfl
theorem hdY_next1 : hdY 1 ++ (.int .u8 32 :: Lib.byteCells (Lib.itoa 0)) = hdY 2 := by rw [itoa0]; rfl
theorem hdY_next2 : hdY 2 ++ (.int .u8 32 :: Lib.byteCells (Lib.itoa 1)) = hdY 3 := by rw [itoa1]; rfl
theorem hdY_zero : Lib.strCells ⟨#[102, 117, 110, 99, 32]⟩ ++ (.int .u8 102 :: Lib.byteCells (Lib.itoa 0)) = hdY 0 := by rw [itoa0]; rfl
theorem hdY_len (k : Nat) : (hdY k).length ≤ 13 := by simp [hdY]; omega
def funY : List Value := hdY 3 ++ [.int .u8 10] ++ retY
theorem ix0 (W : World) : (Instr.index 96 (.agg #[.int .i64 0, .int .i64 0, .int .i64 1]) (.int .i64 0)).run Tryz.prog W = .ok (.int .i64 0) W := by kernel_rfl
theorem ix1 (W : World) : (Instr.index 96 (.agg #[.int .i64 0, .int .i64 0, .int .i64 1]) (.int .i64 1)).run Tryz.prog W = .ok (.int .i64 0) W := by kernel_rfl
theorem ix2 (W : World) : (Instr.index 96 (.agg #[.int .i64 0, .int .i64 0, .int .i64 1]) (.int .i64 2)).run Tryz.prog W = .ok (.int .i64 1) W := by kernel_rfl
set_option maxHeartbeats 16000000 in
theorem funcB_one (ao : Option Addr) (n c gc o cc : Nat) (xs : List Value) (w0 w1 w : World) (hG : Gl w0) (h : Bs w0 w1 w ao n c xs) (hn : n ≤ 50000) (hc : w.rangeAt gc o [.int .i64 18, .int .i64 0]) (hct : ∀ w', Lib.OthersKept 5 none w w' → w'.rangeAt gc o [.int .i64 18, .int .i64 0]) :
    Calls Tryz.prog 28 #[.slice ao n c, .int .i64 0, .agg #[.int .i64 0, .int .i64 0, .int .i64 1, .slice (some ⟨gc, o, none⟩) 1 cc], .int .i64 1] w fun e w' => ∃ ao' m' c', e = .returned (.slice ao' m' c') ∧ Bs w0 w1 w' ao' m' c' (xs ++ funY) := by
  have HG := hid_of hG
  have hka : Kept (fun _ => False) w (w.alloc (.cells #[.int .i64 0, .int .i64 0, .int .i64 1, .slice (some ⟨gc, o, none⟩) 1 cc] 54)) := (Kept.refl _ _).alloc _
  have HX := hid_of (heap_alloc_new w (.cells #[.int .i64 0, .int .i64 0, .int .i64 1, .slice (some ⟨gc, o, none⟩) 1 cc] 54))
  have HB : Hid (Bs w0 (w.alloc (.cells #[.int .i64 0, .int .i64 0, .int .i64 1, .slice (some ⟨gc, o, none⟩) 1 cc] 54)) (w.alloc (.cells #[.int .i64 0, .int .i64 0, .int .i64 1, .slice (some ⟨gc, o, none⟩) 1 cc] 54)) ao n c xs) := ⟨(h.same hka).own, (h.same hka).kept, Lib.OthersKept.refl _ _ _⟩
  have HT := hid_of (h.oth.trans (oth5_kept hka))
  have HTW := hid_of (oth5_kept hka)
  have HN := hid_of hn
  have HNL := hid_of h.len
  have HCT := hid_of hct
  clear hka h hG hn hc hct
  go_enter Tryz.func28, Tryz.ntmps28
  go_upto_region 1 with fail
  generalize w.alloc (.cells #[.int .i64 0, .int .i64 0, .int .i64 1, .slice (some ⟨gc, o, none⟩) 1 cc] 54) = wa at *
  generalize w.heap.size = gx at *
  obtain ⟨a2, m2, c2, w2, hr2, hb2⟩ := HB.out.str ⟨#[102, 117, 110, 99, 32]⟩ (by have := HN.out; show n + 5 ≤ 100000; omega)
  have HR2 := hid_of hr2
  have HB2 := hid_of hb2
  have HM2 : Hid (m2 ≤ 60000) := by
    have h1 := hb2.len
    have h2 := HN.out
    have h3 := HNL.out
    rw [List.length_append, Lib.strCells_length] at h1
    have h4 : (⟨#[102, 117, 110, 99, 32]⟩ : ByteArray).size = 5 := rfl
    unfold Hid
    omega
  have HNM := hid_of (nameB_any (.slice a2 m2 c2) m2 _ 102 0 (by decide) (by decide) w0 w2 HG.out.lo (hb2.gl HG.out) hb2.kept hb2.own (by have := HM2.out; omega))
  clear hr2 hb2
  go_wp2_with (at_builtin; refine wp_app2 rfl (.tmp 14) (.const (.string ⟨#[102, 117, 110, 99, 32]⟩)) 34 9 rfl _ _ rfl rfl _ w2 HR2.out ?_)
  refine HNM.out.mono ?_
  intro e w3 hbr
  obtain ⟨a3, m3, c3, rfl, hb3⟩ := HB2.out.more hbr
  rw [List.append_assoc, hdY_zero] at hb3
  have HB3 := hid_of hb3
  clear hbr hb3 HNM HR2 HB2 HB HM2
  obtain ⟨x0, x1, x2, x3, _⟩ := look4 (Oth5.box HB3.out.oth HX.out (by decide))
  go_wp2_with fail
  clear x0 x1 x2 x3
  go_loopw [0, 25] (fun bv iv wr => ∃ (k : Nat) (a : Option Addr) (m c : Nat), k ≤ 3 ∧ iv = .int .i64 (k : Int) ∧ bv = .slice a m c ∧ Hid (Bs w0 wa wr a m c (xs ++ hdY k))) (fun _ iv _ => 3 - (intOf iv).toNat)
  case atStart => exact ⟨0, _, _, _, by omega, rfl, rfl, HB3⟩
  case round =>
    clear HB3
    obtain ⟨k, a, m, c, hk, rfl, rfl, HBk⟩ := hrel
    have HMk : Hid (m ≤ 60000) := by
      have h1 := HBk.out.len
      have h2 := HN.out
      have h3 := HNL.out
      have h4 := hdY_len k
      rw [List.length_append] at h1
      unfold Hid
      omega
    rcases (show k = 0 ∨ k = 1 ∨ k = 2 ∨ k = 3 by omega) with rfl | rfl | rfl | rfl
    · have HNU := hid_of (numB_any (.slice a m c) m _ 0 (by decide) (by decide) w0 wr HG.out.lo (HBk.out.gl HG.out) HBk.out.kept HBk.out.own (by have := HMk.out; omega))
      have hix := ix0 wr
      go_wp2_with fail
      clear hix
      refine HNU.out.mono ?_
      intro e w4 hbr
      obtain ⟨a4, m4, c4, rfl, hb4⟩ := HBk.out.more hbr
      rw [List.append_assoc, hdY_next0] at hb4
      have HB4 := hid_of hb4
      clear hbr hb4 HNU HBk HMk
      go_wp2
      go_roundw
      case rel => exact ⟨1, _, _, _, by omega, by go_num, rfl, HB4⟩
      case measure => simp [intOf]
    · have HNU := hid_of (numB_any (.slice a m c) m _ 0 (by decide) (by decide) w0 wr HG.out.lo (HBk.out.gl HG.out) HBk.out.kept HBk.out.own (by have := HMk.out; omega))
      have hix := ix1 wr
      go_wp2_with fail
      clear hix
      refine HNU.out.mono ?_
      intro e w4 hbr
      obtain ⟨a4, m4, c4, rfl, hb4⟩ := HBk.out.more hbr
      rw [List.append_assoc, hdY_next1] at hb4
      have HB4 := hid_of hb4
      clear hbr hb4 HNU HBk HMk
      go_wp2
      go_roundw
      case rel => exact ⟨2, _, _, _, by omega, by go_num, rfl, HB4⟩
      case measure => simp [intOf]
    · have HNU := hid_of (numB_any (.slice a m c) m _ 1 (by decide) (by decide) w0 wr HG.out.lo (HBk.out.gl HG.out) HBk.out.kept HBk.out.own (by have := HMk.out; omega))
      have hix := ix2 wr
      go_wp2_with fail
      clear hix
      refine HNU.out.mono ?_
      intro e w4 hbr
      obtain ⟨a4, m4, c4, rfl, hb4⟩ := HBk.out.more hbr
      rw [List.append_assoc, hdY_next2] at hb4
      have HB4 := hid_of hb4
      clear hbr hb4 HNU HBk HMk
      go_wp2
      go_roundw
      case rel => exact ⟨3, _, _, _, by omega, by go_num, rfl, HB4⟩
      case measure => simp [intOf]
    · obtain ⟨a5, m5, c5, w5, hr5, hb5⟩ := HBk.out.byte 10 (by have := HMk.out; omega)
      have HR5 := hid_of hr5
      have HB5 := hid_of hb5
      obtain ⟨x0, x1, x2, x3, _⟩ := look4 (Oth5.box hb5.oth HX.out (by decide))
      have HAI := hid_of (aims_ret gc o cc w5 (HCT.out w5 (HTW.out.trans hb5.oth)))
      clear hr5 hb5 HBk
      go_wp2_with (at_builtin; refine wp_app2 rfl (.tmp 32) (.tmp 33) 34 34 rfl _ _ rfl rfl _ w5 HR5.out ?_)
      refine HAI.out.mono ?_
      rintro e w6 ⟨ga, rfl, hga, hgl, hk6⟩
      have HB6 := hid_of (HB5.out.same hk6)
      have HGA := hid_of hga
      clear hga hgl hk6 HAI HR5 HB5 x0 x1 x2 x3
      obtain ⟨x0, x1, x2, x3, _⟩ := look4 (Oth5.box HB6.out.oth HX.out (by decide))
      have HM6 : Hid (m5 ≤ 60000) := by
        have h1 := HB6.out.len
        have h2 := HN.out
        have h3 := HNL.out
        have h4 := hdY_len 3
        rw [List.length_append, List.length_append] at h1
        unfold Hid
        simp at h1
        omega
      go_wp2_with fail
      clear x0 x1 x2 x3
      go_loopw [0, 41] (fun bv iv wr => ((iv = .int .i64 0 ∧ ∃ (a : Option Addr) (m c : Nat), bv = .slice a m c ∧ Hid (m ≤ 60000) ∧ Hid (Bs w0 wa wr a m c (xs ++ hdY 3 ++ [.int .u8 10]))) ∨ (iv = .int .i64 1 ∧ ∃ (a : Option Addr) (m c : Nat), bv = .slice a m c ∧ Hid (Bs w0 wa wr a m c (xs ++ funY)))) ∧ Hid (wr.heap[ga]? = some (.cells #[.bool false, .bool false] 4 (0, 0)))) (fun _ iv _ => 1 - (intOf iv).toNat)
      case atStart => exact ⟨.inl ⟨rfl, _, _, _, rfl, HM6, HB6⟩, HGA⟩
      case round =>
        clear HB6 HGA HM6
        obtain ⟨hcase, HGA⟩ := hrel
        rcases hcase with ⟨rfl, a, m, c, rfl, HM, HB⟩ | ⟨rfl, a, m, c, rfl, HB⟩
        · have hcr := HCT.out wr (HTW.out.trans HB.out.oth)
          have r0 : wr.cell? ⟨gc, o, none⟩ = some (.int .i64 18) := hcr 0 _ rfl
          have r1 : wr.cell? ⟨gc, o + 1, none⟩ = some (.int .i64 0) := hcr 1 _ rfl
          have hkb : Kept (fun _ => False) wr (wr.alloc (.cells #[.int .i64 18, .int .i64 0] 51)) := (Kept.refl _ _).alloc _
          have HY := hid_of (heap_alloc_new wr (.cells #[.int .i64 18, .int .i64 0] 51))
          have HB7 := hid_of (HB.out.same hkb)
          have HGA7 := hid_of (box_kept hkb HGA.out (fun f => f))
          clear hkb hcr
          go_upto_region 12 with fail
          clear r0 r1
          generalize wr.alloc (.cells #[.int .i64 18, .int .i64 0] 51) = w7 at *
          generalize wr.heap.size = gy at *
          have HLB := hid_of (labelB_none (.slice a m c) ga 2 2 0 w7 (cell_block _ _ 0 _ _ _ HGA7.out) (by decide))
          go_wp2_with fail
          refine HLB.out.mono ?_
          rintro e w8 ⟨rfl, hw⟩
          have hw := hw.symm
          subst hw
          clear HLB
          obtain ⟨y0, y1, _⟩ := look2 HY.out
          obtain ⟨x0, x1, x2, x3, _⟩ := look4 (Oth5.box HB7.out.oth HX.out (by decide))
          have HIN := hid_of (instrB_ret (.slice a m c) m _ 0 1 1 w0 w7 HB7.out.kept HB7.out.own (by have := HM.out; omega))
          go_wp2_with fail
          refine HIN.out.mono ?_
          intro e w8 hbr
          have HGA8 : Hid (w8.heap[ga]? = some (.cells #[.bool false, .bool false] 4 (0, 0))) := by
            obtain ⟨_, _, _, _, _, hot⟩ := hbr
            exact Oth5.box hot HGA7.out (by decide)
          obtain ⟨a8, m8, c8, rfl, hb8⟩ := HB7.out.more hbr
          rw [List.append_assoc, List.append_assoc] at hb8
          have HB8 : Hid (Bs w0 wa w8 a8 m8 c8 (xs ++ funY)) := by
            unfold funY
            rw [List.append_assoc]
            exact hb8
          clear hbr hb8 HIN HB7 HGA7 HY y0 y1 x0 x1 x2 x3
          go_wp2
          go_roundw
          case rel => exact ⟨.inr ⟨by go_num, _, _, _, rfl, HB8⟩, HGA8⟩
          case measure => simp [intOf]
        · have HLB := hid_of (labelB_none (.slice a m c) ga 2 2 1 wr (cell_block _ _ 1 _ _ _ HGA.out) (by decide))
          obtain ⟨x0, x1, x2, x3, _⟩ := look4 (Oth5.box HB.out.oth HX.out (by decide))
          go_wp2_with fail
          refine HLB.out.mono ?_
          rintro e w8 ⟨rfl, hw⟩
          have hw := hw.symm
          subst hw
          clear HLB
          go_wp2
          go_ret
          exact ⟨_, _, _, rfl, HB.out.own, HB.out.kept, HT.out.trans HB.out.oth⟩
end Go.Proofs.YtkilngknklpadaaGreatDoor

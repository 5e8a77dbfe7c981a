import Derived.Test.YtpfmhibdmehlcaaGreatDoorTOx19
namespace Go.Proofs.YtpfmhibdmehlcaaGreatDoor
open Go.RowKit
set_option linter.unusedVariables false
set_option linter.unusedSimpArgs false
set_option maxRecDepth 100000
def numZ (i : Int) : List Value := .int .u8 32 :: Lib.byteCells (Lib.itoa i)
def hdF (k : Nat) (f : FN) (j : Nat) : List Value := Lib.strCells ⟨#[102, 117, 110, 99, 32]⟩ ++ (.int .u8 102 :: Lib.byteCells (Lib.itoa (k : Int))) ++ (([f.a, f.l, f.r].take j).flatMap numZ)
theorem hdF_next0 (k : Nat) (f : FN) : hdF k f 0 ++ (.int .u8 32 :: Lib.byteCells (Lib.itoa f.a)) = hdF k f 1 := by simp [hdF, numZ]
theorem hdF_next1 (k : Nat) (f : FN) : hdF k f 1 ++ (.int .u8 32 :: Lib.byteCells (Lib.itoa f.l)) = hdF k f 2 := by simp [hdF, numZ]
theorem hdF_next2 (k : Nat) (f : FN) : hdF k f 2 ++ (.int .u8 32 :: Lib.byteCells (Lib.itoa f.r)) = hdF k f 3 := by simp [hdF, numZ]
theorem hdF_zero (k : Nat) (f : FN) : Lib.strCells ⟨#[102, 117, 110, 99, 32]⟩ ++ (.int .u8 102 :: Lib.byteCells (Lib.itoa (k : Int))) = hdF k f 0 := by simp [hdF]
theorem numZ_len (i : Int) (h0 : -9223372036854775808 ≤ i) (h1 : i < 9223372036854775808) : (numZ i).length ≤ 22 := by
 have := itoa_le i h0 (by omega)
 simp [numZ, Lib.byteCells_length]
 omega
theorem hdF_len (k : Nat) (f : FN) (hk : k ≤ 1000000) (hf : f.Ok) (j : Nat) : (hdF k f j).length ≤ 100 := by
 have h1 := itoa_le (k : Int) (by omega) (by omega)
 have h2 : (([f.a, f.l, f.r].take j).flatMap numZ).length ≤ 66 := by
  have ha := numZ_len f.a hf.a.1 hf.a.2
  have hl := numZ_len f.l hf.l.1 hf.l.2
  have hr := numZ_len f.r hf.r.1 hf.r.2
  rcases j with _ | _ | _ | j
  ·simp
  ·simp; omega
  ·simp; omega
  ·simp; omega
 have h3 : (Lib.strCells ⟨#[102, 117, 110, 99, 32]⟩).length = 5 := bl_cells _
 unfold hdF
 simp only [List.length_append, List.length_cons, Lib.byteCells_length, h3]
 omega
def insAt (pl fs : Int) (ys : List IN) (k : Nat) : List Value := match ys[k]? with
 | some y => insB y.op y.a pl fs
 | none => []
def bodD (q : List Bool) (pl fs : Int) (ys : List IN) (n : Nat) : List Value := (List.range n).flatMap (fun k => lblD (q.getD k false) k ++ insAt pl fs ys k)
theorem bodD_succ (q : List Bool) (pl fs : Int) (ys : List IN) (n : Nat) : bodD q pl fs ys (n + 1) = bodD q pl fs ys n ++ (lblD (q.getD n false) n ++ insAt pl fs ys n) := by
 simp [bodD, List.range_succ, List.flatMap_append]
theorem lblD_len (b : Bool) (k : Nat) (hk : k ≤ 1000000) : (lblD b k).length ≤ 24 := by
 have h1 := itoa_le (k : Int) (by omega) (by omega)
 have h3 : (Lib.strCells ⟨#[58, 10]⟩).length = 2 := bl_cells _
 unfold lblD
 split
 ·simp only [List.length_append, List.length_cons, Lib.byteCells_length, h3]
  omega
 ·simp
theorem insB_len (op a pl fs : Int) (h0 : -9223372036854775808 ≤ a) (h1 : a < 9223372036854775808) : (insB op a pl fs).length ≤ 230 := by
 have h2 := itoa_le a h0 (by omega)
 have h3 := ins_small op
 have h4 := sys_small a
 have h5 : (opdD (rowS insL op) a pl fs).length ≤ 101 := by
  unfold opdD
  split
  ·simp
  ·split
   ·simp [Lib.byteCells_length]; omega
   ·split
    ·simp [Lib.byteCells_length]; omega
    ·split
     ·simp only [List.length_cons, bl_cells]; omega
     ·simp [Lib.byteCells_length]; omega
 unfold insB
 simp only [List.length_append, List.length_cons, bl_cells, List.length_nil]
 omega
theorem bodD_len (q : List Bool) (pl fs : Int) (ys : List IN) (hy : ∀ y ∈ ys, y.Ok) : ∀ n : Nat, n ≤ 1000000 → (bodD q pl fs ys n).length ≤ 254 * n
 | 0, _ => by simp [bodD]
 | n + 1, hn => by
  rw [bodD_succ]
  have h1 := bodD_len q pl fs ys hy n (by omega)
  have h2 := lblD_len (q.getD n false) n (by omega)
  have h3 : (insAt pl fs ys n).length ≤ 230 := by
   unfold insAt
   split
   ·rename_i y hq
    have := hy y (List.mem_of_getElem? hq)
    exact insB_len _ _ _ _ this.2.1 this.2.2
   ·simp
  simp only [List.length_append]
  omega
def fnD (k : Nat) (f : FN) (fs : Int) : List Value := hdF k f 3 ++ [.int .u8 10] ++ bodD (aimsD f.code) (f.code.length : Int) fs f.code (f.code.length + 1)
theorem fnD_len (k : Nat) (f : FN) (fs : Int) (hk : k ≤ 1000000) (hf : f.Ok) (hc : f.code.length ≤ 100000) : (fnD k f fs).length ≤ 101 + 254 * (f.code.length + 1) := by
 have h1 := hdF_len k f hk hf 3
 have h2 := bodD_len (aimsD f.code) (f.code.length : Int) fs f.code hf.code (f.code.length + 1) (by omega)
 unfold fnD
 simp only [List.length_append, List.length_cons, List.length_nil]
 omega
theorem fnD_end (k : Nat) (f : FN) (fs : Int) : hdF k f 3 ++ [.int .u8 10] ++ bodD (aimsD f.code) (f.code.length : Int) fs f.code f.code.length ++ lblD ((aimsD f.code).getD f.code.length false) f.code.length = fnD k f fs := by
 have e : insAt (f.code.length : Int) fs f.code f.code.length = [] := by unfold insAt; rw [List.getElem?_eq_none (Nat.le_refl _)]
 unfold fnD
 rw [bodD_succ, e, List.append_nil]
 simp only [List.append_assoc]
theorem aimsD_len (ys : List IN) : (aimsD ys).length = ys.length + 1 := by unfold aimsD; rw [aims_len]; simp
theorem jx0 (a b c : Int) (W : World) : (Instr.index 107 (.agg #[.int .i64 a, .int .i64 b, .int .i64 c]) (.int .i64 0)).run Tryz.prog W = .ok (.int .i64 a) W := by kernel_rfl
theorem jx1 (a b c : Int) (W : World) : (Instr.index 107 (.agg #[.int .i64 a, .int .i64 b, .int .i64 c]) (.int .i64 1)).run Tryz.prog W = .ok (.int .i64 b) W := by kernel_rfl
theorem jx2 (a b c : Int) (W : World) : (Instr.index 107 (.agg #[.int .i64 a, .int .i64 b, .int .i64 c]) (.int .i64 2)).run Tryz.prog W = .ok (.int .i64 c) W := by kernel_rfl
theorem bool_cell {w : World} {g k : Nat} {q : List Bool} (h : w.heap[g]? = some (.cells (q.map Value.bool).toArray 4 (0, 0))) (hk : k < q.length) : w.cell? ⟨g, k, none⟩ = some (.bool (q.getD k false)) := by
 rw [cell_block _ _ _ _ _ _ h]
 simp [hk]
set_option maxHeartbeats 16000000 in
theorem funcB_any (ao : Option Addr) (n c : Nat) (cv : Value) (xs : List Value) (k : Nat) (f : FN) (fs : Int) (hf : f.Ok) (hfl : f.code.length ≤ 4096) (hk : k ≤ 1000) (hj : ∀ y ∈ f.code, (rowS insL y.op).o = 3 → 0 ≤ y.a) (w0 w1 w : World) (hG0 : 8 ≤ w0.heap.size) (hG : Gl w0) (h : Bs w0 w1 w ao n c xs) (hn : n ≤ 900000000000) (hr : RowI w0 cv f.code) :
  Calls Tryz.prog 31 #[.slice ao n c, .int .i64 (k : Int), .agg #[.int .i64 f.a, .int .i64 f.l, .int .i64 f.r, cv], .int .i64 fs] w fun e w' => ∃ ao' m' c', e = .returned (.slice ao' m' c') ∧ Bs w0 w1 w' ao' m' c' (xs ++ fnD k f fs) := by
 obtain ⟨co, cc, rfl⟩ := hr.shape
 have HG := hid_of hG
 have HG0 := hid_of hG0
 have HFO := hid_of hf
 have HR := hid_of hr
 have HJ := hid_of hj
 have hka : Kept (fun _ => False) w (w.alloc (.cells #[.int .i64 f.a, .int .i64 f.l, .int .i64 f.r, .slice co f.code.length cc] 51)) := (Kept.refl _ _).alloc _
 have HX := hid_of (heap_alloc_new w (.cells #[.int .i64 f.a, .int .i64 f.l, .int .i64 f.r, .slice co f.code.length cc] 51))
 have HB := hid_of (h.here hka)
 have HT := hid_of (h.oth.trans (oth5_kept hka))
 have HN := hid_of hn
 have HNL := hid_of h.len
 have HK := hid_of hk
 have HH := fun j => hid_of (hdF_len k f (by omega) hf j)
 have HBL := fun j (hj : j ≤ 4096) => hid_of (bodD_len (aimsD f.code) (f.code.length : Int) fs f.code hf.code j (by omega))
 have HE := hid_of (fnD_end k f fs)
 have HZ := hid_of (hdF_zero k f)
 have HN0 := hid_of (hdF_next0 k f)
 have HN1 := hid_of (hdF_next1 k f)
 have HN2 := hid_of (hdF_next2 k f)
 have HFL := hid_of hfl
 clear hka h hG hn hr hf hk hj hG0 hfl
 obtain ⟨fa, fl, fr, ys⟩ := f
 simp only at HX HB HT HR HJ HE HN0 HN1 HN2 HBL HFL ⊢
 obtain ⟨pl, hpl⟩ := nmd (ys.length)
 rw [← hpl] at HX HB HT HE HBL HFL HR ⊢
 have HPL := hid_of hpl
 clear hpl
 have HPI : Hid ((pl : Int) ≤ 4096) := by have := HFL.out; show (pl : Int) ≤ 4096; omega
 go_enter Tryz.func31, Tryz.ntmps31
 go_upto_region 1 with fail
 generalize w.alloc (.cells #[.int .i64 fa, .int .i64 fl, .int .i64 fr, .slice co pl cc] 51) = wa at *
 generalize w.heap.size = gx at *
 obtain ⟨a2, m2, c2, w2, hr2, hb2⟩ := HB.out.pushS ⟨#[102, 117, 110, 99, 32]⟩ (by have := HN.out; show n + 5 ≤ 140737488355328; omega)
 have HR2 := hid_of hr2
 have HB2 := hid_of hb2
 have HM2 : Hid (m2 ≤ 900000000005) := by
  have h1 := HB.out.step hb2
  have h2 := HN.out
  rw [bl_cells] at h1
  have h4 : (⟨#[102, 117, 110, 99, 32]⟩ : ByteArray).size = 5 := rfl
  unfold Hid
  omega
 have HNM := hid_of (nameB_big a2 m2 c2 _ 102 (k : Int) (by omega) (by have := HK.out; omega) w0 wa w2 HG0.out HG.out hb2 (by have := HM2.out; omega))
 clear hr2 hb2
 go_wp2_with (at_builtin; refine wp_app2 rfl (.tmp 14) (.const (.string ⟨#[102, 117, 110, 99, 32]⟩)) 22 9 rfl _ _ rfl rfl _ w2 HR2.out ?_)
 refine HNM.out.mono ?_
 rintro e w3 ⟨a3, m3, c3, rfl, hb3⟩
 rw [List.append_assoc, HZ.out] at hb3
 have HB3 := hid_of hb3
 clear hb3 HNM HR2 HB2 HB HM2
 obtain ⟨x0, x1, x2, x3, _⟩ := look4 (Oth5.box HB3.out.oth HX.out (by decide))
 go_wp2_with fail
 clear x0 x1 x2 x3
 go_loopw [0, 25] (fun bv iv wr => ∃ (j : Nat) (a : Option Addr) (m c : Nat), j ≤ 3 ∧ iv = .int .i64 (j : Int) ∧ bv = .slice a m c ∧ Hid (Bs w0 wa wr a m c (xs ++ hdF k ⟨fa, fl, fr, ys⟩ j))) (fun _ iv _ => 3 - (intOf iv).toNat)
 case atStart => exact ⟨0, _, _, _, by omega, rfl, rfl, HB3⟩
 case round =>
  clear HB3
  obtain ⟨j, a, m, c, hj, rfl, rfl, HBk⟩ := hrel
  have HMk : Hid (m ≤ 900000000200) := by
   have h1 := HBk.out.len
   have h2 := HN.out
   have h3 := HNL.out
   have h4 := (HH j).out
   rw [List.length_append] at h1
   unfold Hid
   omega
  rcases (show j = 0 ∨ j = 1 ∨ j = 2 ∨ j = 3 by omega) with rfl | rfl | rfl | rfl
  ·have HNU := hid_of (numB_big a m c _ fa HFO.out.a.1 (by have := HFO.out.a.2; simp only at this; omega) w0 wa wr HG0.out HG.out HBk.out (by have := HMk.out; omega))
   have hix := jx0 fa fl fr wr
   go_wp2_with fail
   clear hix
   refine HNU.out.mono ?_
   rintro e w4 ⟨a4, m4, c4, rfl, hb4⟩
   rw [List.append_assoc, HN0.out] at hb4
   have HB4 := hid_of hb4
   clear hb4 HNU HBk HMk
   go_wp2
   go_roundw
   case rel => exact ⟨1, _, _, _, by omega, by go_num, rfl, HB4⟩
   case measure => simp [intOf]
  ·have HNU := hid_of (numB_big a m c _ fl HFO.out.l.1 (by have := HFO.out.l.2; simp only at this; omega) w0 wa wr HG0.out HG.out HBk.out (by have := HMk.out; omega))
   have hix := jx1 fa fl fr wr
   go_wp2_with fail
   clear hix
   refine HNU.out.mono ?_
   rintro e w4 ⟨a4, m4, c4, rfl, hb4⟩
   rw [List.append_assoc, HN1.out] at hb4
   have HB4 := hid_of hb4
   clear hb4 HNU HBk HMk
   go_wp2
   go_roundw
   case rel => exact ⟨2, _, _, _, by omega, by go_num, rfl, HB4⟩
   case measure => simp [intOf]
  ·have HNU := hid_of (numB_big a m c _ fr HFO.out.r.1 (by have := HFO.out.r.2; simp only at this; omega) w0 wa wr HG0.out HG.out HBk.out (by have := HMk.out; omega))
   have hix := jx2 fa fl fr wr
   go_wp2_with fail
   clear hix
   refine HNU.out.mono ?_
   rintro e w4 ⟨a4, m4, c4, rfl, hb4⟩
   rw [List.append_assoc, HN2.out] at hb4
   have HB4 := hid_of hb4
   clear hb4 HNU HBk HMk
   go_wp2
   go_roundw
   case rel => exact ⟨3, _, _, _, by omega, by go_num, rfl, HB4⟩
   case measure => simp [intOf]
  ·obtain ⟨a5, m5, c5, w5, hr5, hb5⟩ := HBk.out.push [.int .u8 10] (by simp [Value.oneCell']) (by have := HMk.out; simp; omega)
   have HR5 := hid_of hr5
   have HB5 := hid_of hb5
   obtain ⟨x0, x1, x2, x3, _⟩ := look4 (Oth5.box hb5.oth HX.out (by decide))
   have HAI := hid_of (aims_any (.slice co pl cc) ys (by have := HFL.out; have := HPL.out; omega) HFO.out.code HJ.out w5 (HR.out.kept hb5.kept (fun _ _ f => f)))
   rw [← HPL.out] at HAI
   clear hr5 hb5 HBk
   go_wp2_with (at_builtin; refine wp_app2 rfl (.tmp 32) (.tmp 33) 22 22 rfl _ _ rfl rfl _ w5 HR5.out ?_)
   refine HAI.out.mono ?_
   rintro e w6 ⟨ga, rfl, hga, hgl, hk6⟩
   have HT6 := hid_of (HT.out.trans (HB5.out.oth.trans (oth5_kept hk6)))
   have HX6 := hid_of (box_kept hk6 (Oth5.box HB5.out.oth HX.out (by decide)) id)
   have HB6 := hid_of (HB5.out.here hk6)
   have HGA := hid_of hga
   clear hga hgl hk6 HAI HR5 HB5 x0 x1 x2 x3 HX HT
   obtain ⟨x0, x1, x2, x3, _⟩ := look4 HX6.out
   have HB6' : Hid (Bs w0 w6 w6 a5 m5 c5 (xs ++ hdF k ⟨fa, fl, fr, ys⟩ 3 ++ [.int .u8 10] ++ bodD (aimsD ys) (pl : Int) fs ys 0)) := by
    show Bs w0 w6 w6 a5 m5 c5 _
    rw [show bodD (aimsD ys) (pl : Int) fs ys 0 = [] from rfl, List.append_nil]
    exact HB6.out
   clear HB6
   go_wp2_with fail
   clear x0 x1 x2 x3
   go_loopw [0, 41] (fun bv iv wr => ∃ (i : Nat) (a : Option Addr) (m c : Nat), iv = .int .i64 (i : Int) ∧ bv = .slice a m c ∧ Hid (i ≤ pl) ∧ Hid (Bs w0 w6 wr a m c (xs ++ hdF k ⟨fa, fl, fr, ys⟩ 3 ++ [.int .u8 10] ++ bodD (aimsD ys) (pl : Int) fs ys i))) (fun _ iv _ => pl - (intOf iv).toNat)
   case atStart => exact ⟨0, _, _, _, rfl, rfl, Nat.zero_le _, HB6'⟩
   case round =>
    clear HB6'
    obtain ⟨i, a, m, c, rfl, rfl, HI, HBi⟩ := hrel
    have HM : Hid (m ≤ 900010000000) := by
     have h1 := HBi.out.len
     have h2 := HN.out
     have h3 := HNL.out
     have h4 := (HH 3).out
     have h5 := HI.out
     have h6 := HFL.out
     have h7 := (HBL i (by omega)).out
     simp only [List.length_append, List.length_cons, List.length_nil] at h1
     unfold Hid
     omega
    by_cases hlt : i < pl
    ·have hil : i < ys.length := by have := HPL.out; omega
     have hltI : (i : Int) < (pl : Int) := by omega
     obtain ⟨g, o, rfl, r0, r1⟩ : ∃ g o, co = some ⟨g, o, none⟩ ∧ wr.cell? ⟨g, o + i * 2, none⟩ = some (.int .i64 (ys[i]'hil).op) ∧ wr.cell? ⟨g, o + i * 2 + 1, none⟩ = some (.int .i64 (ys[i]'hil).a) := by
      rcases HR.out.kept HBi.out.kept (fun _ _ f => f) with ⟨h0, _⟩ | ⟨g, o, c, hv, hc⟩
      ·subst h0
       exact absurd hil (Nat.not_lt_zero _)
      ·cases hv
       have := hc i (ys[i]'hil) (List.getElem?_eq_getElem hil)
       exact ⟨g, o, rfl, this 0 _ rfl, this 1 _ rfl⟩
     have hy := HFO.out.code _ (List.getElem_mem hil)
     have HSU : Hid (bodD (aimsD ys) (pl : Int) fs ys (i + 1) = bodD (aimsD ys) (pl : Int) fs ys i ++ (lblD ((aimsD ys).getD i false) i ++ insB (ys[i]'hil).op (ys[i]'hil).a (pl : Int) fs)) := by
      show _ = _
      rw [bodD_succ]
      simp only [insAt, List.getElem?_eq_getElem hil]
     generalize hyy : ys[i]'hil = y at *
     clear hyy
     obtain ⟨op, ya⟩ := y
     simp only at r0 r1 HSU
     have HY0 := hid_of hy
     have hkb : Kept (fun _ => False) wr (wr.alloc (.cells #[.int .i64 op, .int .i64 ya] 48)) := (Kept.refl _ _).alloc _
     have HY := hid_of (heap_alloc_new wr (.cells #[.int .i64 op, .int .i64 ya] 48))
     have HB7 := hid_of (HBi.out.here hkb)
     have HT7 := hid_of (HBi.out.oth.trans (oth5_kept hkb))
     have HGA7 := hid_of (Oth5.box HT7.out HGA.out (by decide))
     have HX7 := hid_of (Oth5.box HT7.out HX6.out (by decide))
     have HIB : Hid ((i : Int) < 4096) := by have := HFL.out; show (i : Int) < 4096; omega
     have HI1 : Hid (i + 1 ≤ pl) := hlt
     clear hkb hy HBi hil hlt HI
     go_upto_region 12 with fail
     clear r0 r1
     generalize wr.alloc (.cells #[.int .i64 op, .int .i64 ya] 48) = w7 at *
     generalize wr.heap.size = gy at *
     have HLB := hid_of (labelB_any a m c _ ga (pl + 1) (pl + 1) i ((aimsD ys).getD i false) (by have := HI1.out; omega) (by have := HIB.out; omega) w0 w7 w7 HG0.out HG.out HB7.out (by have := HM.out; omega) (bool_cell HGA7.out (by rw [aimsD_len]; have := HI1.out; have := HPL.out; omega)))
     go_wp2_with fail
     refine HLB.out.mono ?_
     rintro e w8 ⟨a8, m8, c8, rfl, hb8⟩
     have HB8 := hid_of hb8
     have HM8 : Hid (m8 ≤ 900010000100) := by
      have h1 := HB7.out.step hb8
      have h2 := HM.out
      have h3 := lblD_len ((aimsD ys).getD i false) i (by have := HIB.out; omega)
      unfold Hid
      omega
     clear hb8 HLB HB7
     obtain ⟨y0, y1, _⟩ := look2 (Oth5.box HB8.out.oth HY.out (by decide))
     obtain ⟨x0, x1, x2, x3, _⟩ := look4 (Oth5.box HB8.out.oth HX7.out (by decide))
     have HIN := hid_of (instrB_any a8 m8 c8 _ op ya (pl : Int) fs HY0.out.1.1 HY0.out.1.2 HY0.out.2.1 HY0.out.2.2 w0 w7 w8 HG0.out HG.out HB8.out (by have := HM8.out; omega))
     go_wp2_with fail
     refine HIN.out.mono ?_
     rintro e w9 ⟨a9, m9, c9, rfl, hb9⟩
     have HB9 : Hid (Bs w0 w6 w9 a9 m9 c9 (xs ++ hdF k ⟨fa, fl, fr, ys⟩ 3 ++ [.int .u8 10] ++ bodD (aimsD ys) (pl : Int) fs ys (i + 1))) := by
      show Bs w0 w6 w9 a9 m9 c9 _
      rw [HSU.out]
      have := hb9.rebase HT7.out
      simpa only [List.append_assoc] using this
     clear hb9 HIN HB8 HY y0 y1 x0 x1 x2 x3
     have hiB : (i : Int) < 4096 := HIB.out
     go_wp2
     go_roundw
     case rel => exact ⟨i + 1, _, _, _, by go_num, rfl, HI1, HB9⟩
     case measure => have := HI1.out; simp [intOf]; omega
    ·have hip : i = pl := by have := HI.out; omega
     subst hip
     have hnlt : ¬ (i : Int) < (i : Int) := by omega
     have HGA7 := hid_of (Oth5.box HBi.out.oth HGA.out (by decide))
     have HLB := hid_of (labelB_any a m c _ ga (i + 1) (i + 1) i ((aimsD ys).getD i false) (by omega) (by have := HFL.out; omega) w0 w6 wr HG0.out HG.out HBi.out (by have := HM.out; omega) (bool_cell HGA7.out (by rw [aimsD_len]; have := HPL.out; omega)))
     obtain ⟨x0, x1, x2, x3, _⟩ := look4 (Oth5.box HBi.out.oth HX6.out (by decide))
     clear hlt
     go_wp2_with fail
     refine HLB.out.mono ?_
     rintro e w8 ⟨a8, m8, c8, rfl, hb8⟩
     have HB9 : Hid (Bs w0 w1 w8 a8 m8 c8 (xs ++ fnD k ⟨fa, fl, fr, ys⟩ fs)) := by
      show Bs w0 w1 w8 a8 m8 c8 _
      have h1 := hb8.rebase HT6.out
      have h2 := HE.out
      rw [← h2]
      simpa only [List.append_assoc] using h1
     clear hb8 HLB x0 x1 x2 x3
     go_wp2
     go_ret
     exact ⟨_, _, _, rfl, HB9.out⟩
end Go.Proofs.YtpfmhibdmehlcaaGreatDoor

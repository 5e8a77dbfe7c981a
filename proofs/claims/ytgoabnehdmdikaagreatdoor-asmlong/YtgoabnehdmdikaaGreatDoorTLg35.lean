import Derived.Test.YtgoabnehdmdikaaGreatDoorTLg34
import Derived.Lib.SlBytesConst
set_option linter.unusedVariables false
set_option linter.unusedSimpArgs false
set_option maxRecDepth 100000
set_option maxHeartbeats 64000000
namespace Go.Proofs.YtgoabnehdmdikaaGreatDoor
open Go.RowKit
def Zb9 (i : Int) : List Value := .int .u8 32 :: Lib.byteCells (Lib.itoa i)
def hdF (k : Nat) (f : FN) (j : Nat) : List Value := Lib.strCells ⟨#[102, 117, 110, 99, 32]⟩ ++ (.int .u8 102 :: Lib.byteCells (Lib.itoa (k : Int))) ++ (([f.a, f.l, f.r].take j).flatMap Zb9)
theorem Zpi (k : Nat) (f : FN) : hdF k f 0 ++ (.int .u8 32 :: Lib.byteCells (Lib.itoa f.a)) = hdF k f 1 := by simp [hdF, Zb9]
theorem Zpj (k : Nat) (f : FN) : hdF k f 1 ++ (.int .u8 32 :: Lib.byteCells (Lib.itoa f.l)) = hdF k f 2 := by simp [hdF, Zb9]
theorem Zpk (k : Nat) (f : FN) : hdF k f 2 ++ (.int .u8 32 :: Lib.byteCells (Lib.itoa f.r)) = hdF k f 3 := by simp [hdF, Zb9]
theorem Zr7 (k : Nat) (f : FN) : Lib.strCells ⟨#[102, 117, 110, 99, 32]⟩ ++ (.int .u8 102 :: Lib.byteCells (Lib.itoa (k : Int))) = hdF k f 0 := by simp [hdF]
theorem Zdu (i : Int) (h0 : -9223372036854775808 ≤ i) (h1 : i < 9223372036854775808) : (Zb9 i).length ≤ 22 := by
 have := Zbe i h0 (by omega)
 simp [Zb9, Lib.byteCells_length]
 omega
theorem Zhx (k : Nat) (f : FN) (hk : k ≤ 1000000) (hf : f.Ok) (j : Nat) : (hdF k f j).length ≤ 100 := by
 have h1 := Zbe (k : Int) (by omega) (by omega)
 have h2 : (([f.a, f.l, f.r].take j).flatMap Zb9).length ≤ 66 := by
  have ha := Zdu f.a hf.a.1 hf.a.2
  have hl := Zdu f.l hf.l.1 hf.l.2
  have hr := Zdu f.r hf.r.1 hf.r.2
  rcases j with _ | _ | _ | j
  ·simp
  ·simp; omega
  ·simp; omega
  ·simp; omega
 have h3 : (Lib.strCells ⟨#[102, 117, 110, 99, 32]⟩).length = 5 := Za8 _
 unfold hdF
 simp only [List.length_append, List.length_cons, Lib.byteCells_length, h3]
 omega
def Zb6 (pl fs : Int) (ys : List IN) (k : Nat) : List Value := match ys[k]? with
 | some y => Zdt y.op y.a pl fs
 | none => []
def Wf (q : List Bool) (pl fs : Int) (ys : List IN) (n : Nat) : List Value := (List.range n).flatMap (fun k => Wm (q.getD k false) k ++ Zb6 pl fs ys k)
theorem Zd4 (q : List Bool) (pl fs : Int) (ys : List IN) (n : Nat) : Wf q pl fs ys (n + 1) = Wf q pl fs ys n ++ (Wm (q.getD n false) n ++ Zb6 pl fs ys n) := by
 simp [Wf, List.range_succ, List.flatMap_append]
theorem Zks (b : Bool) (k : Nat) (hk : k ≤ 1000000) : (Wm b k).length ≤ 24 := by
 have h1 := Zbe (k : Int) (by omega) (by omega)
 have h3 : (Lib.strCells ⟨#[58, 10]⟩).length = 2 := Za8 _
 unfold Wm
 split
 ·simp only [List.length_append, List.length_cons, Lib.byteCells_length, h3]
  omega
 ·simp
theorem Zkt (op a pl fs : Int) (h0 : -9223372036854775808 ≤ a) (h1 : a < 9223372036854775808) : (Zdt op a pl fs).length ≤ 230 := by
 have h2 := Zbe a h0 (by omega)
 have h3 := Zfq op
 have h4 := Zd3 a
 have h5 : (We (Yd Zj op) a pl fs).length ≤ 101 := by
  unfold We
  split
  ·simp
  ·split
   ·simp [Lib.byteCells_length]; omega
   ·split
    ·simp [Lib.byteCells_length]; omega
    ·split
     ·simp only [List.length_cons, Za8]; omega
     ·simp [Lib.byteCells_length]; omega
 unfold Zdt
 simp only [List.length_append, List.length_cons, Za8, List.length_nil]
 omega
theorem Ze8 (q : List Bool) (pl fs : Int) (ys : List IN) (hy : ∀ y ∈ ys, y.Ok) : ∀ n : Nat, n ≤ 1000000 → (Wf q pl fs ys n).length ≤ 254 * n
 | 0, _ => by simp [Wf]
 | n + 1, hn => by
  rw [Zd4]
  have h1 := Ze8 q pl fs ys hy n (by omega)
  have h2 := Zks (q.getD n false) n (by omega)
  have h3 : (Zb6 pl fs ys n).length ≤ 230 := by
   unfold Zb6
   split
   ·rename_i y hq
    have := hy y (List.mem_of_getElem? hq)
    exact Zkt _ _ _ _ this.2.1 this.2.2
   ·simp
  simp only [List.length_append]
  omega
def fnD (k : Nat) (f : FN) (fs : Int) : List Value := hdF k f 3 ++ [.int .u8 10] ++ Wf (Yu f.code) (f.code.length : Int) fs f.code (f.code.length + 1)
theorem Zuy (k : Nat) (f : FN) (fs : Int) (hk : k ≤ 1000000) (hf : f.Ok) (hc : f.code.length ≤ 100000) : (fnD k f fs).length ≤ 101 + 254 * (f.code.length + 1) := by
 have h1 := Zhx k f hk hf 3
 have h2 := Ze8 (Yu f.code) (f.code.length : Int) fs f.code hf.code (f.code.length + 1) (by omega)
 unfold fnD
 simp only [List.length_append, List.length_cons, List.length_nil]
 omega
theorem Zuz (k : Nat) (f : FN) (fs : Int) : hdF k f 3 ++ [.int .u8 10] ++ Wf (Yu f.code) (f.code.length : Int) fs f.code f.code.length ++ Wm ((Yu f.code).getD f.code.length false) f.code.length = fnD k f fs := by
 have e : Zb6 (f.code.length : Int) fs f.code f.code.length = [] := by unfold Zb6; rw [List.getElem?_eq_none (Nat.le_refl _)]
 unfold fnD
 rw [Zd4, e, List.append_nil]
 simp only [List.append_assoc]
theorem Zfs (ys : List IN) : (Yu ys).length = ys.length + 1 := by unfold Yu; rw [Ze6]; simp
theorem jx0 (a b c : Int) (W : World) : (Instr.index 64 (.agg #[.int .i64 a, .int .i64 b, .int .i64 c]) (.int .i64 0)).run Tryz.prog W = .ok (.int .i64 a) W := by kernel_rfl
theorem jx1 (a b c : Int) (W : World) : (Instr.index 64 (.agg #[.int .i64 a, .int .i64 b, .int .i64 c]) (.int .i64 1)).run Tryz.prog W = .ok (.int .i64 b) W := by kernel_rfl
theorem jx2 (a b c : Int) (W : World) : (Instr.index 64 (.agg #[.int .i64 a, .int .i64 b, .int .i64 c]) (.int .i64 2)).run Tryz.prog W = .ok (.int .i64 c) W := by kernel_rfl
theorem Zft {w : World} {g k : Nat} {q : List Bool} (h : w.heap[g]? = some (.cells (q.map Value.bool).toArray 4 (0, 0))) (hk : k < q.length) : w.cell? ⟨g, k, none⟩ = some (.bool (q.getD k false)) := by
 rw [Zb _ _ _ _ _ _ h]
 simp [hk]
theorem Ziu (ao : Option Addr) (n c : Nat) (cv : Value) (xs : List Value) (k : Nat) (f : FN) (fs : Int) (hf : f.Ok) (hfl : f.code.length ≤ 4096) (hk : k ≤ 1000) (hj : ∀ y ∈ f.code, (Yd Zj y.op).o = 3 → 0 ≤ y.a) (w0 w1 w : World) (hG0 : 8 ≤ w0.heap.size) (hG : Gl w0) (h : Bs w0 w1 w ao n c xs) (hn : n ≤ 900000000000) (hr : RowI w0 cv f.code) :
  Calls Tryz.prog 48 #[.slice ao n c, .int .i64 (k : Int), .agg #[.int .i64 f.a, .int .i64 f.l, .int .i64 f.r, cv], .int .i64 fs] w fun e w' => ∃ ao' m' c', e = .returned (.slice ao' m' c') ∧ Bs w0 w1 w' ao' m' c' (xs ++ fnD k f fs) := by
 obtain ⟨co, cc, rfl⟩ := hr.shape
 have HG := Za hG
 have HG0 := Za hG0
 have HFO := Za hf
 have HR := Za hr
 have HJ := Za hj
 have hka : Kept nF w (w.alloc (.cells #[.int .i64 f.a, .int .i64 f.l, .int .i64 f.r, .slice co f.code.length cc] 78)) := (Kept.refl _ _).alloc _
 have HX := Za (heap_alloc_new w (.cells #[.int .i64 f.a, .int .i64 f.l, .int .i64 f.r, .slice co f.code.length cc] 78))
 have HB := Za (h.here hka)
 have HT := Za (h.oth.trans (Zab hka))
 have HN := Za hn
 have HNL := Za h.len
 have HK := Za hk
 have HH := fun j => Za (Zhx k f (by omega) hf j)
 have HBL := fun j (hj : j ≤ 4096) => Za (Ze8 (Yu f.code) (f.code.length : Int) fs f.code hf.code j (by omega))
 have HE := Za (Zuz k f fs)
 have HZ := Za (Zr7 k f)
 have HN0 := Za (Zpi k f)
 have HN1 := Za (Zpj k f)
 have HN2 := Za (Zpk k f)
 have HFL := Za hfl
 clear hka h hG hn hr hf hk hj hG0 hfl
 obtain ⟨fa, fl, fr, ys⟩ := f
 simp only at HX HB HT HR HJ HE HN0 HN1 HN2 HBL HFL ⊢
 obtain ⟨pl, hpl⟩ := nmd (ys.length)
 rw [← hpl] at HX HB HT HE HBL HFL HR ⊢
 have HPL := Za hpl
 clear hpl
 have HPI : Hid ((pl : Int) ≤ 4096) := by have := HFL.out; show (pl : Int) ≤ 4096; omega
 go_enter Tryz.func48, Tryz.ntmps48
 go_upto_region 1 with fail
 generalize w.alloc (.cells #[.int .i64 fa, .int .i64 fl, .int .i64 fr, .slice co pl cc] 78) = wa at *
 generalize w.heap.size = gx at *
 obtain ⟨a2, m2, c2, w2, hr2, hb2⟩ := HB.out.pushS ⟨#[102, 117, 110, 99, 32]⟩ (by have := HN.out; show n + 5 ≤ 140737488355328; omega)
 have HR2 := Za hr2
 have HB2 := Za hb2
 have HM2 : Hid (m2 ≤ 900000000005) := by
  have h1 := HB.out.step hb2
  have h2 := HN.out
  rw [Za8] at h1
  have h4 : (⟨#[102, 117, 110, 99, 32]⟩ : ByteArray).size = 5 := rfl
  unfold Hid
  omega
 have HNM := Za (Zd7 a2 m2 c2 _ 102 (k : Int) (by omega) (by have := HK.out; omega) w0 wa w2 HG0.out HG.out hb2 (by have := HM2.out; omega))
 clear hr2 hb2
 go_wp2_with (at_builtin; refine Zr rfl (.tmp 14) (.const (.string ⟨#[102, 117, 110, 99, 32]⟩)) 23 9 rfl _ _ rfl rfl _ w2 HR2.out ?_)
 refine HNM.out.mono ?_
 rintro e w3 ⟨a3, m3, c3, rfl, hb3⟩
 rw [List.append_assoc, HZ.out] at hb3
 have HB3 := Za hb3
 clear hb3 HNM HR2 HB2 HB HM2
 obtain ⟨x0, x1, x2, x3, _⟩ := Yk (Oth5.box HB3.out.oth HX.out (by decide))
 go_wp2_with fail
 clear x0 x1 x2 x3
 go_loopw [0, 25] (fun bv iv wr => ∃ (j : Nat) (a : Option Addr) (m c : Nat), j ≤ 3 ∧ iv = .int .i64 (j : Int) ∧ bv = .slice a m c ∧ Hid (Bs w0 wa wr a m c (xs ++ hdF k ⟨fa, fl, fr, ys⟩ j))) (fun _ iv _ => 3 - (intOf iv).toNat)
 case atStart => exact ⟨0, _, _, _, by omega, rfl, rfl, HB3⟩
 case round =>
  clear HB3
  obtain ⟨j, a, m, c, hj, rfl, rfl, HBk⟩ := hrel
  have HMk : Hid (m ≤ 900000000200) := by
   have h1 := HBk.out.len
   have h2 := HN.out
   have h3 := HNL.out
   have h4 := (HH j).out
   rw [List.length_append] at h1
   unfold Hid
   omega
  rcases (show j = 0 ∨ j = 1 ∨ j = 2 ∨ j = 3 by omega) with rfl | rfl | rfl | rfl
  ·have HNU := Za (Zc2 a m c _ fa HFO.out.a.1 (by have := HFO.out.a.2; simp only at this; omega) w0 wa wr HG0.out HG.out HBk.out (by have := HMk.out; omega))
   have hix := jx0 fa fl fr wr
   go_wp2_with fail
   clear hix
   refine HNU.out.mono ?_
   rintro e w4 ⟨a4, m4, c4, rfl, hb4⟩
   rw [List.append_assoc, HN0.out] at hb4
   have HB4 := Za hb4
   clear hb4 HNU HBk HMk
   go_wp2
   go_roundw
   case rel => exact ⟨1, _, _, _, by omega, by go_num, rfl, HB4⟩
   case measure => simp [intOf]
  ·have HNU := Za (Zc2 a m c _ fl HFO.out.l.1 (by have := HFO.out.l.2; simp only at this; omega) w0 wa wr HG0.out HG.out HBk.out (by have := HMk.out; omega))
   have hix := jx1 fa fl fr wr
   go_wp2_with fail
   clear hix
   refine HNU.out.mono ?_
   rintro e w4 ⟨a4, m4, c4, rfl, hb4⟩
   rw [List.append_assoc, HN1.out] at hb4
   have HB4 := Za hb4
   clear hb4 HNU HBk HMk
   go_wp2
   go_roundw
   case rel => exact ⟨2, _, _, _, by omega, by go_num, rfl, HB4⟩
   case measure => simp [intOf]
  ·have HNU := Za (Zc2 a m c _ fr HFO.out.r.1 (by have := HFO.out.r.2; simp only at this; omega) w0 wa wr HG0.out HG.out HBk.out (by have := HMk.out; omega))
   have hix := jx2 fa fl fr wr
   go_wp2_with fail
   clear hix
   refine HNU.out.mono ?_
   rintro e w4 ⟨a4, m4, c4, rfl, hb4⟩
   rw [List.append_assoc, HN2.out] at hb4
   have HB4 := Za hb4
   clear hb4 HNU HBk HMk
   go_wp2
   go_roundw
   case rel => exact ⟨3, _, _, _, by omega, by go_num, rfl, HB4⟩
   case measure => simp [intOf]
  ·obtain ⟨a5, m5, c5, w5, hr5, hb5⟩ := HBk.out.push [.int .u8 10] (by simp [Value.oneCell']) (by have := HMk.out; simp; omega)
   have HR5 := Za hr5
   have HB5 := Za hb5
   obtain ⟨x0, x1, x2, x3, _⟩ := Yk (Oth5.box hb5.oth HX.out (by decide))
   have HAI := Za (Zr4 (.slice co pl cc) ys (by have := HFL.out; have := HPL.out; omega) HFO.out.code HJ.out w5 (HR.out.kept hb5.kept (fun _ _ f => f)))
   rw [← HPL.out] at HAI
   clear hr5 hb5 HBk
   go_wp2_with (at_builtin; refine Zr rfl (.tmp 32) (.tmp 33) 23 23 rfl _ _ rfl rfl _ w5 HR5.out ?_)
   refine HAI.out.mono ?_
   rintro e w6 ⟨ga, rfl, hga, hgl, hk6⟩
   have HT6 := Za (HT.out.trans (HB5.out.oth.trans (Zab hk6)))
   have HX6 := Za (Zc hk6 (Oth5.box HB5.out.oth HX.out (by decide)) id)
   have HB6 := Za (HB5.out.here hk6)
   have HGA := Za hga
   clear hga hgl hk6 HAI HR5 HB5 x0 x1 x2 x3 HX HT
   obtain ⟨x0, x1, x2, x3, _⟩ := Yk HX6.out
   have HB6' : Hid (Bs w0 w6 w6 a5 m5 c5 (xs ++ hdF k ⟨fa, fl, fr, ys⟩ 3 ++ [.int .u8 10] ++ Wf (Yu ys) (pl : Int) fs ys 0)) := by
    show Bs w0 w6 w6 a5 m5 c5 _
    rw [show Wf (Yu ys) (pl : Int) fs ys 0 = [] from rfl, List.append_nil]
    exact HB6.out
   clear HB6
   go_wp2_with fail
   clear x0 x1 x2 x3
   go_loopw [0, 41] (fun bv iv wr => ∃ (i : Nat) (a : Option Addr) (m c : Nat), iv = .int .i64 (i : Int) ∧ bv = .slice a m c ∧ Hid (i ≤ pl) ∧ Hid (Bs w0 w6 wr a m c (xs ++ hdF k ⟨fa, fl, fr, ys⟩ 3 ++ [.int .u8 10] ++ Wf (Yu ys) (pl : Int) fs ys i))) (fun _ iv _ => pl - (intOf iv).toNat)
   case atStart => exact ⟨0, _, _, _, rfl, rfl, Nat.zero_le _, HB6'⟩
   case round =>
    clear HB6'
    obtain ⟨i, a, m, c, rfl, rfl, HI, HBi⟩ := hrel
    have HM : Hid (m ≤ 900010000000) := by
     have h1 := HBi.out.len
     have h2 := HN.out
     have h3 := HNL.out
     have h4 := (HH 3).out
     have h5 := HI.out
     have h6 := HFL.out
     have h7 := (HBL i (by omega)).out
     simp only [List.length_append, List.length_cons, List.length_nil] at h1
     unfold Hid
     omega
    by_cases hlt : i < pl
    ·have hil : i < ys.length := by have := HPL.out; omega
     have hltI : (i : Int) < (pl : Int) := by omega
     obtain ⟨g, o, rfl, r0, r1⟩ : ∃ g o, co = some ⟨g, o, none⟩ ∧ wr.cell? ⟨g, o + i * 2, none⟩ = some (.int .i64 (ys[i]'hil).op) ∧ wr.cell? ⟨g, o + i * 2 + 1, none⟩ = some (.int .i64 (ys[i]'hil).a) := by
      rcases HR.out.kept HBi.out.kept (fun _ _ f => f) with ⟨h0, _⟩ | ⟨g, o, c, hv, hc⟩
      ·subst h0
       exact absurd hil (Nat.not_lt_zero _)
      ·cases hv
       have := hc i (ys[i]'hil) (List.getElem?_eq_getElem hil)
       exact ⟨g, o, rfl, this 0 _ rfl, this 1 _ rfl⟩
     have hy := HFO.out.code _ (List.getElem_mem hil)
     have HSU : Hid (Wf (Yu ys) (pl : Int) fs ys (i + 1) = Wf (Yu ys) (pl : Int) fs ys i ++ (Wm ((Yu ys).getD i false) i ++ Zdt (ys[i]'hil).op (ys[i]'hil).a (pl : Int) fs)) := by
      show _ = _
      rw [Zd4]
      simp only [Zb6, List.getElem?_eq_getElem hil]
     generalize hyy : ys[i]'hil = y at *
     clear hyy
     obtain ⟨op, ya⟩ := y
     simp only at r0 r1 HSU
     have HY0 := Za hy
     have hkb : Kept nF wr (wr.alloc (.cells #[.int .i64 op, .int .i64 ya] 75)) := (Kept.refl _ _).alloc _
     have HY := Za (heap_alloc_new wr (.cells #[.int .i64 op, .int .i64 ya] 75))
     have HB7 := Za (HBi.out.here hkb)
     have HT7 := Za (HBi.out.oth.trans (Zab hkb))
     have HGA7 := Za (Oth5.box HT7.out HGA.out (by decide))
     have HX7 := Za (Oth5.box HT7.out HX6.out (by decide))
     have HIB : Hid ((i : Int) < 4096) := by have := HFL.out; show (i : Int) < 4096; omega
     have HI1 : Hid (i + 1 ≤ pl) := hlt
     clear hkb hy HBi hil hlt HI
     go_upto_region 12 with fail
     clear r0 r1
     generalize wr.alloc (.cells #[.int .i64 op, .int .i64 ya] 75) = w7 at *
     generalize wr.heap.size = gy at *
     have HLB := Za (Zg9 a m c _ ga (pl + 1) (pl + 1) i ((Yu ys).getD i false) (by have := HI1.out; omega) (by have := HIB.out; omega) w0 w7 w7 HG0.out HG.out HB7.out (by have := HM.out; omega) (Zft HGA7.out (by rw [Zfs]; have := HI1.out; have := HPL.out; omega)))
     go_wp2_with fail
     refine HLB.out.mono ?_
     rintro e w8 ⟨a8, m8, c8, rfl, hb8⟩
     have HB8 := Za hb8
     have HM8 : Hid (m8 ≤ 900010000100) := by
      have h1 := HB7.out.step hb8
      have h2 := HM.out
      have h3 := Zks ((Yu ys).getD i false) i (by have := HIB.out; omega)
      unfold Hid
      omega
     clear hb8 HLB HB7
     obtain ⟨y0, y1, _⟩ := Ym (Oth5.box HB8.out.oth HY.out (by decide))
     obtain ⟨x0, x1, x2, x3, _⟩ := Yk (Oth5.box HB8.out.oth HX7.out (by decide))
     have HIN := Za (Znk a8 m8 c8 _ op ya (pl : Int) fs HY0.out.1.1 HY0.out.1.2 HY0.out.2.1 HY0.out.2.2 w0 w7 w8 HG0.out HG.out HB8.out (by have := HM8.out; omega))
     go_wp2_with fail
     refine HIN.out.mono ?_
     rintro e w9 ⟨a9, m9, c9, rfl, hb9⟩
     have HB9 : Hid (Bs w0 w6 w9 a9 m9 c9 (xs ++ hdF k ⟨fa, fl, fr, ys⟩ 3 ++ [.int .u8 10] ++ Wf (Yu ys) (pl : Int) fs ys (i + 1))) := by
      show Bs w0 w6 w9 a9 m9 c9 _
      rw [HSU.out]
      have := hb9.rebase HT7.out
      simpa only [List.append_assoc] using this
     clear hb9 HIN HB8 HY y0 y1 x0 x1 x2 x3
     have hiB : (i : Int) < 4096 := HIB.out
     go_wp2
     go_roundw
     case rel => exact ⟨i + 1, _, _, _, by go_num, rfl, HI1, HB9⟩
     case measure => have := HI1.out; simp [intOf]; omega
    ·have hip : i = pl := by have := HI.out; omega
     subst hip
     have hnlt : ¬ (i : Int) < (i : Int) := by omega
     have HGA7 := Za (Oth5.box HBi.out.oth HGA.out (by decide))
     have HLB := Za (Zg9 a m c _ ga (i + 1) (i + 1) i ((Yu ys).getD i false) (by omega) (by have := HFL.out; omega) w0 w6 wr HG0.out HG.out HBi.out (by have := HM.out; omega) (Zft HGA7.out (by rw [Zfs]; have := HPL.out; omega)))
     obtain ⟨x0, x1, x2, x3, _⟩ := Yk (Oth5.box HBi.out.oth HX6.out (by decide))
     clear hlt
     go_wp2_with fail
     refine HLB.out.mono ?_
     rintro e w8 ⟨a8, m8, c8, rfl, hb8⟩
     have HB9 : Hid (Bs w0 w1 w8 a8 m8 c8 (xs ++ fnD k ⟨fa, fl, fr, ys⟩ fs)) := by
      show Bs w0 w1 w8 a8 m8 c8 _
      have h1 := hb8.rebase HT6.out
      have h2 := HE.out
      rw [← h2]
      simpa only [List.append_assoc] using h1
     clear hb8 HLB x0 x1 x2 x3
     go_wp2
     go_ret
     exact ⟨_, _, _, rfl, HB9.out⟩
theorem Zpl : ∀ i : Nat, i < 46 → (Zj.getD i Sh.none).o = 3 → 2 ≤ kix i := by decide
theorem Zgr {y : IN} (h : Xl y = 0) (h3 : (Yd Zj y.op).o = 3) : 0 ≤ y.a := by
 unfold Xl at h
 by_cases hr : Xb Zj y.op = true
 ·rw [if_pos hr] at h
  have hr2 := of_decide_eq_true hr
  obtain ⟨i, hi⟩ := Int.eq_ofNat_of_zero_le hr2.1
  have hi46 : i < 46 := by have := hr2.2; have e : Zj.length = 46 := rfl; omega
  rw [hi, (Zcd (L := Zj) (k := i) (by have e : Zj.length = 46 := rfl; omega)).1] at h3
  have hk := Zpl i hi46 h3
  have hk2 : 2 ≤ kOf y.op := by unfold kOf; rw [hi]; exact hk
  by_cases hm : Xo (kOf y.op) y.a = true
  ·rw [Zk1 hk2] at hm
   simp at hm
   exact hm.1
  ·rw [if_neg hm] at h
   exact absurd h (by decide)
 ·rw [if_neg hr] at h
  exact absurd h (by decide)
structure PgGood (p : PG) : Prop where
 mem : 0 ≤ p.mem ∧ p.mem ≤ 65536
 data : (p.data.length : Int) ≤ p.mem
 fns : 1 ≤ p.fns.length ∧ p.fns.length ≤ 64
 fn : ∀ f ∈ p.fns, f.code.length ≤ 4096 ∧ ∀ y ∈ f.code, Xl y = 0
theorem Zha {p : PG} (h : Ya p = 0) : PgGood p := by
 unfold Ya at h
 by_cases hb : Zea p = true
 ·rw [if_pos hb] at h; exact absurd h (by decide)
 ·rw [if_neg hb] at h
  rcases Zfv p with ⟨_, hh⟩ | ⟨hh, _⟩
  ·exact absurd hh hb
  ·refine ⟨⟨hh.1, hh.2.1⟩, hh.2.2.1, ⟨by omega, by omega⟩, fun f hf => ?_⟩
   have h0 := Zgi p.fns h f hf
   rcases Zhc f with ⟨_, hx⟩ | ⟨hx, he⟩
   ·rw [hx] at h0; exact absurd h0 (by decide)
   ·rw [he] at h0
    unfold Xz at h0
    by_cases hl : 4096 < f.code.length
    ·rw [if_pos hl] at h0; exact absurd h0 (by decide)
    ·rw [if_neg hl] at h0
     exact ⟨by omega, (Zcf _).1 h0⟩
def Zbs (xs : List Int) : List Value := if xs.length = 0 then [] else Lib.strCells ⟨#[100, 97, 116, 97, 32]⟩ ++ Zo (Xr xs) ++ [.int .u8 10]
def Zd5 (fs : Int) (fns : List FN) (k : Nat) : List Value := match fns[k]? with
 | some f => fnD k f fs
 | none => []
def Xq (fs : Int) (fns : List FN) (n : Nat) : List Value := (List.range n).flatMap (Zd5 fs fns)
theorem Zd6 (fs : Int) (fns : List FN) (n : Nat) : Xq fs fns (n + 1) = Xq fs fns n ++ Zd5 fs fns n := by simp [Xq, List.range_succ, List.flatMap_append]
def headD (p : PG) : List Value := Zca ++ Zb9 p.mem ++ [.int .u8 10] ++ Zbs p.data
def Zau (p : PG) : List Value := headD p ++ Xq (p.fns.length : Int) p.fns p.fns.length
theorem Ze9 (xs : List Int) : (Xr xs).length ≤ 4 * xs.length + 2 := by
 have : ∀ l : List Int, (l.flatMap qa).length ≤ 4 * l.length := by
  intro l
  induction l with
  | nil => simp
  | cons x l ih =>
   have h : (qa x).length ≤ 4 := by
    unfold qa
    split
    ·simp
    ·split <;> simp
   rw [List.flatMap_cons, List.length_append, List.length_cons]
   omega
 have := this xs
 unfold Xr
 simp only [List.length_append, List.length_cons, List.length_nil]
 omega
theorem Zpm (xs : List Int) : (Zbs xs).length ≤ 4 * xs.length + 20 := by
 unfold Zbs
 split
 ·simp
 ·have h := Ze9 xs
  have h3 : (Lib.strCells ⟨#[100, 97, 116, 97, 32]⟩).length = 5 := Za8 _
  simp only [List.length_append, List.length_cons, List.length_nil, h3, Zo, List.length_map]
  omega
theorem Ziv (p : PG) (hp : p.Ok) : (headD p).length ≤ 4 * p.data.length + 100 := by
 have h1 := Zpm p.data
 have h2 := Zdu p.mem hp.mem.1 hp.mem.2
 unfold headD
 simp only [List.length_append, List.length_cons, List.length_nil]
 omega
theorem Zgs (fs : Int) (fns : List FN) (hf : ∀ f ∈ fns, f.Ok ∧ f.code.length ≤ 4096) : ∀ n : Nat, n ≤ 64 → (Xq fs fns n).length ≤ 2000000 * n
 | 0, _ => by simp [Xq]
 | n + 1, hn => by
  rw [Zd6]
  have h1 := Zgs fs fns hf n (by omega)
  have h2 : (Zd5 fs fns n).length ≤ 2000000 := by
   unfold Zd5
   split
   ·rename_i f hq
    have h := hf f (List.mem_of_getElem? hq)
    have := Zuy n f fs (by omega) h.1 (by omega)
    omega
   ·simp
  simp only [List.length_append]
  omega
theorem Znl (w0 wa : World) (i : Int) (h0 : -9223372036854775808 ≤ i) (h1 : i ≤ 9223372036854775807) (hG0 : 8 ≤ w0.heap.size) (hG : Gl wa) (hk : Kept nF w0 wa) :
  Calls Tryz.prog 46 #[.slice (some ⟨wa.heap.size, 0, none⟩) 6 6, .int .i64 i] (wa.alloc (.cells Wi 5 (6, 7))) fun e w' => ∃ ao m c, e = .returned (.slice ao m c) ∧ Bs w0 wa w' ao m c (Zca ++ Zb9 i) := by
 obtain ⟨a1, m1, c1, w2, hr, ho2, hk2⟩ := Znw w0 wa hk 32
 have hm1 : m1 = 7 := by have := ho2.1; have e : (Zca ++ [Value.int .u8 32]).length = 7 := rfl; omega
 have HA := Za (Tryz.strconv_AppendInt_10 w0.heap.size m1 i h0 h1 _ _ w2 ho2 (hk.trans hk2).size (by omega) ((hG.same hk2).tab5 hG0))
 have HK2 := Za (hk.trans hk2)
 have HT2 := Za (Zab hk2)
 have HR := Za hr
 have HO := Za hm1
 clear hr ho2 hk2 hk hG hG0 hm1 h0 h1
 go_enter Tryz.func46, Tryz.ntmps46
 go_wp2_with (at_builtin; refine Zr rfl (.tmp 5) (.tmp 6) 23 23 rfl _ _ rfl rfl _ w2 HR.out ?_)
 refine HA.out.mono ?_
 rintro e w3 ⟨v3, rfl, ho3, hb3, hot3⟩
 rw [List.append_assoc] at ho3
 obtain ⟨a3, c3, hv3⟩ := Zd ho3
 obtain ⟨m3, hm3⟩ := nmd (m1 + (Lib.itoa i).length)
 rw [← hm3] at hv3 ho3
 subst hv3
 have HB : Hid (Bs w0 wa w3 a3 m3 c3 (Zca ++ Zb9 i)) := ⟨ho3, Zgt HK2.out hb3, HT2.out.trans hot3⟩
 clear ho3 hb3 hot3 hm3 HA HR
 go_wp2
 go_ret
 exact ⟨_, _, _, rfl, HB.out⟩
theorem Zlm (dv fv : Value) (p : PG) (B : Nat) (w : World) (hG : Gl w) (hP : PgIs w B (.agg #[.int .i64 p.mem, dv, fv]) p) (hok : p.Ok) (hpg : PgGood p) :
  Calls Tryz.prog 29 #[.agg #[.int .i64 p.mem, dv, fv]] w fun e w' => ∃ ao m c, e = .returned (.slice ao m c) ∧ w'.ownsRow w.heap.size 5 1 (.slice ao m c) m (Zau p) ∧ Kept nF w w' := by
 obtain ⟨dv', fv', he, hd, hdB, hf⟩ := hP
 cases he
 obtain ⟨dao, dc, rfl⟩ := hd.shape
 obtain ⟨fao, fc, rfl⟩ := hf.shape
 have HG := Za hG
 have HOK := Za hok
 have HPG := Za hpg
 have HDL := Za (Ziv p hok)
 have HNU0 := fun (wa : World) (hk : Kept nF w wa) => Znl w wa p.mem hok.mem.1 (by have := hok.mem.2; omega) hG.lo (hG.same hk) hk
 have HPD : Hid (Zau p = headD p ++ Xq (p.fns.length : Int) p.fns p.fns.length) := rfl
 have HHD : Hid (headD p = Zca ++ Zb9 p.mem ++ [.int .u8 10] ++ Zbs p.data) := rfl
 have HFL := fun k hk => Za (Zgs (p.fns.length : Int) p.fns (fun f hf => ⟨hok.fns f hf, (hpg.fn f hf).1⟩) k hk)
 have HD := Za hd
 have HF := Za hf
 have HBO := Za hok.data
 have HDM : Hid (p.data.length ≤ 65536) := by show p.data.length ≤ 65536; have h1 := hpg.data; have h2 := hpg.mem.2; omega
 have HN6 := Za hpg.fns.2
 have HN2 := Za (Zdu p.mem hok.mem.1 hok.mem.2)
 obtain ⟨mem, ds, fs⟩ := p
 simp only at HNU0 HPD HHD HFL HD HF HBO HDM HN6 HDL HN2 ⊢
 clear hd hf hG hok hpg hdB
 obtain ⟨nf, hnf⟩ := nmd (fs.length)
 obtain ⟨nd, hnd⟩ := nmd (ds.length)
 rw [← hnf] at HF HPD HFL HN6 ⊢
 rw [← hnd] at HD HDM HDL ⊢
 have HNF := Za hnf
 have HND := Za hnd
 clear hnf hnd
 have hka : Kept nF w (w.alloc (.cells #[.int .i64 mem, .slice dao nd dc, .slice fao nf fc] 26)) := (Kept.refl _ _).alloc _
 have HX := Za (heap_alloc_new w (.cells #[.int .i64 mem, .slice dao nd dc, .slice fao nf fc] 26))
 have HK := Za hka
 have HNU := Za (HNU0 _ hka)
 clear hka HNU0
 go_enter Tryz.func29, Tryz.ntmps29
 go_upto_region 1 with fail
 generalize w.alloc (.cells #[.int .i64 mem, .slice dao nd dc, .slice fao nf fc] 26) = wa at *
 generalize hgx : w.heap.size = gx at HX ⊢
 have HGX := Za hgx
 clear hgx
 have hkm : Kept nF wa (wa.alloc (.cells Wi 5 (6, 7))) := (Kept.refl _ _).alloc _
 obtain ⟨x0, x1, x2, _⟩ := Zx (Zc hkm HX.out id)
 have hcv := Lib.run_convert_bytes_const (P := Tryz.prog) wa 23 5 Wi 6 6 Tryz.underlying23 Tryz.underlying5
 rw [show Wi.size = 6 from rfl] at hcv
 clear hkm
 go_wp2_with fail
 refine HNU.out.mono ?_
 rintro e w2 ⟨a2, m2, c2, rfl, hb2⟩
 have HB2 := Za hb2
 have HM2 : Hid (m2 ≤ 100) := by
  have h1 := hb2.len
  have h2 := HN2.out
  rw [List.length_append] at h1
  have e : Zca.length = 6 := rfl
  unfold Hid
  omega
 clear hb2 HNU hcv x0 x1 x2
 obtain ⟨a3, m3, c3, w3, hr3, hb3⟩ := HB2.out.push [.int .u8 10] (by simp [Value.oneCell']) (by have := HM2.out; simp; omega)
 have HR3 := Za hr3
 have HB3 := Za hb3
 have HM3 : Hid (m3 ≤ 101) := by
  have h1 := HB2.out.step hb3
  have h2 := HM2.out
  simp at h1
  unfold Hid
  omega
 obtain ⟨x0, x1, x2, _⟩ := Zx (Oth5.box hb3.oth HX.out (by decide))
 clear hr3 hb3 HM2
 by_cases hz : nd = 0
 ·have HB4 : Hid (Bs w wa w3 a3 m3 c3 (headD ⟨mem, ds, fs⟩ ++ Xq (nf : Int) fs 0)) := by
   show Bs w wa w3 a3 m3 c3 _
   rw [HHD.out, show Xq (nf : Int) fs 0 = [] from rfl, show Zbs ds = [] by unfold Zbs; rw [if_pos (by have := HND.out; omega)], List.append_nil, List.append_nil]
   exact HB3.out
  subst hz
  clear HHD
  generalize headD ⟨mem, ds, fs⟩ = HD at *
  go_wp2_with (at_builtin; refine Zr rfl (.tmp 11) (.tmp 12) 23 23 rfl _ _ rfl rfl _ w3 HR3.out ?_)
  clear HR3 HB2 HB3 HM3
  clear x0 x1 x2
  go_loopw [3, 30] (fun bv iv wr => ∃ (k : Nat) (a : Option Addr) (m c : Nat), iv = .int .i64 (k : Int) ∧ bv = .slice a m c ∧ Hid (k ≤ nf) ∧ Hid (Bs w wa wr a m c (HD ++ Xq (nf : Int) fs k))) (fun _ iv _ => nf - (intOf iv).toNat)
  case atStart => exact ⟨0, _, _, _, rfl, rfl, Nat.zero_le _, HB4⟩
  case round =>
   clear HB4
   obtain ⟨k, a, m, c, rfl, rfl, HK, HBk⟩ := hrel
   by_cases hlt : k < nf
   ·have hkl : k < fs.length := by have := HNF.out; omega
    have hltI : (k : Int) < (nf : Int) := by omega
    have HM : Hid (m ≤ 200000000) := by
     have h1 := HBk.out.len
     have h2 := (HFL k (by have := HN6.out; omega)).out
     have h3 := HDL.out
     rw [List.length_append] at h1
     have := HN6.out
     have h9 := HDM.out
     unfold Hid
     omega
    obtain ⟨gf, o, f, rfl, hgB, hfk, hfa⟩ := (HF.out.kept HBk.out.kept (fun _ _ f => f)).at hkl
    obtain ⟨co, cc, r0, r1, r2, r3, hrow, _⟩ := Zbr hfa
    have HRW : Hid (RowI w (.slice co f.code.length cc) f.code) := by
     obtain ⟨gf2, o2, f2, e2, hgB2, hfk2, hfa2⟩ := HF.out.at hkl
     cases e2
     have ef : f2 = f := by rw [hfk] at hfk2; exact (Option.some.inj hfk2).symm
     subst ef
     obtain ⟨cv, q1, q2, _⟩ := hfa2
     have hq : HBk.out.kept.cell (q1 3 _ rfl) id = HBk.out.kept.cell (q1 3 _ rfl) id := rfl
     have hq3 := HBk.out.kept.cell (q1 3 _ rfl) id
     rw [r3] at hq3
     cases hq3
     exact q2
    have HFI := Za (List.mem_of_getElem? hfk)
    have HSU : Hid (Xq (nf : Int) fs (k + 1) = Xq (nf : Int) fs k ++ fnD k f (nf : Int)) := by
     show _ = _
     rw [Zd6]
     simp only [Zd5, hfk]
    have hkc : Kept nF wr (wr.alloc (.cells #[.int .i64 f.a, .int .i64 f.l, .int .i64 f.r, .slice co f.code.length cc] 78)) := (Kept.refl _ _).alloc _
    have HY := Za (heap_alloc_new wr (.cells #[.int .i64 f.a, .int .i64 f.l, .int .i64 f.r, .slice co f.code.length cc] 78))
    have HB5 := Za (HBk.out.same hkc)
    have HK1 : Hid (k + 1 ≤ nf) := hlt
    clear hkc hfa hrow hfk hgB HBk HK hkl hlt
    obtain ⟨fa, fl, fr, ys⟩ := f
    simp only at r0 r1 r2 r3 HY HB5 HRW HFI HSU
    go_upto_region 10 with fail
    clear r0 r1 r2 r3
    generalize wr.alloc (.cells #[.int .i64 fa, .int .i64 fl, .int .i64 fr, .slice co ys.length cc] 78) = w5 at *
    generalize wr.heap.size = gy at *
    obtain ⟨y0, y1, y2, y3, _⟩ := Yk HY.out
    obtain ⟨x0, x1, x2, _⟩ := Zx (Oth5.box HB5.out.oth HX.out (by decide))
    have HFU := Za (Ziu a m c (.slice co ys.length cc) _ k ⟨fa, fl, fr, ys⟩ (nf : Int) (HOK.out.fns _ HFI.out) (HPG.out.fn _ HFI.out).1 (by have := HK1.out; have := HN6.out; omega) (fun y hy => Zgr ((HPG.out.fn _ HFI.out).2 y hy)) w wa w5 HG.out.lo HG.out HB5.out (by have := HM.out; omega) HRW.out)
    go_wp2_with fail
    refine HFU.out.mono ?_
    rintro e w6 ⟨a6, m6, c6, rfl, hb6⟩
    have HB6 : Hid (Bs w wa w6 a6 m6 c6 (HD ++ Xq (nf : Int) fs (k + 1))) := by
     show Bs w wa w6 a6 m6 c6 _
     rw [HSU.out]
     simpa only [List.append_assoc] using hb6
    clear hb6 HFU HB5 HY x0 x1 x2 y0 y1 y2 y3
    have hkB : (k : Int) < 64 := by have := HK1.out; have := HN6.out; omega
    go_wp2
    go_roundw
    case rel => exact ⟨k + 1, _, _, _, by go_num, rfl, HK1, HB6⟩
    case measure => have := HK1.out; simp [intOf]; omega
   ·have hkn : k = nf := by have := HK.out; omega
    subst hkn
    have hnlt : ¬ (k : Int) < (k : Int) := by omega
    have HFF : Hid (Zau ⟨mem, ds, fs⟩ = HD ++ Xq (k : Int) fs k) := HPD.out
    clear hlt
    go_wp2
    go_ret
    exact ⟨_, _, _, rfl, by rw [HFF.out]; exact HBk.out.own, HBk.out.kept⟩
 ·have hnI : (nd : Int) > 0 := by omega
  have HND0 := Za hz
  clear hz
  obtain ⟨a4, m4, c4, w4, hr4, hb4⟩ := HB3.out.pushS ⟨#[100, 97, 116, 97, 32]⟩ (by have := HM3.out; show m3 + 5 ≤ 140737488355328; omega)
  have HR4 := Za hr4
  have HM4 : Hid (m4 ≤ 106) := by
   have h1 := HB3.out.step hb4
   have h2 := HM3.out
   rw [Za8] at h1
   have h4 : (⟨#[100, 97, 116, 97, 32]⟩ : ByteArray).size = 5 := rfl
   unfold Hid
   omega
  obtain ⟨z0, z1, z2, _⟩ := Zx (Oth5.box hb4.oth HX.out (by decide))
  have HST := Za (Zlr a4 m4 c4 _ (.slice dao nd dc) ds w wa w4 HD.out (fun x hx => HBO.out.1 x hx) (by have := HDM.out; have := HND.out; omega) (by have := HM4.out; omega) hb4)
  have HB4s := Za hb4
  clear hr4 hb4
  go_wp2_with (at_builtin; first | (refine Zr rfl (.tmp 11) (.tmp 12) 23 23 rfl _ _ rfl rfl _ w3 HR3.out ?_) | (refine Zr rfl (.tmp 18) (.const (.string ⟨#[100, 97, 116, 97, 32]⟩)) 23 9 rfl _ _ rfl rfl _ w4 HR4.out ?_))
  clear HR3 HB2
  refine HST.out.mono ?_
  rintro e w5 ⟨a5, m5, c5, rfl, hb5⟩
  have hm5 : m5 ≤ 300000 := by
   have h1 := HB4s.out.step hb5
   have h2 := HM4.out
   have h3 := Ze9 ds
   have h4 := HDM.out
   have h5 := HND.out
   simp only [Zo, List.length_map] at h1
   omega
  obtain ⟨a6, m6, c6, w6, hr6, hb6⟩ := hb5.push [.int .u8 10] (by simp [Value.oneCell']) (by simp; omega)
  have HR6 := Za hr6
  have HB4 : Hid (Bs w wa w6 a6 m6 c6 (headD ⟨mem, ds, fs⟩ ++ Xq (nf : Int) fs 0)) := by
   show Bs w wa w6 a6 m6 c6 _
   rw [HHD.out, show Xq (nf : Int) fs 0 = [] from rfl, show Zbs ds = Lib.strCells ⟨#[100, 97, 116, 97, 32]⟩ ++ Zo (Xr ds) ++ [.int .u8 10] by unfold Zbs; rw [if_neg (by have := HND.out; have := HND0.out; omega)], List.append_nil]
   simpa only [List.append_assoc] using hb6
  clear hb5 hr6 hb6 HST HB4s HR4 HM4 HHD hm5 x0 x1 x2 z0 z1 z2
  obtain ⟨x0, x1, x2, _⟩ := Zx (Oth5.box HB4.out.oth HX.out (by decide))
  generalize headD ⟨mem, ds, fs⟩ = HD at *
  go_wp2_with (at_builtin; refine Zr rfl (.tmp 24) (.tmp 25) 23 23 rfl _ _ rfl rfl _ w6 HR6.out ?_)
  clear HR6 HB3 HM3
  clear x0 x1 x2
  go_loopw [3, 30] (fun bv iv wr => ∃ (k : Nat) (a : Option Addr) (m c : Nat), iv = .int .i64 (k : Int) ∧ bv = .slice a m c ∧ Hid (k ≤ nf) ∧ Hid (Bs w wa wr a m c (HD ++ Xq (nf : Int) fs k))) (fun _ iv _ => nf - (intOf iv).toNat)
  case atStart => exact ⟨0, _, _, _, rfl, rfl, Nat.zero_le _, HB4⟩
  case round =>
   clear HB4
   obtain ⟨k, a, m, c, rfl, rfl, HK, HBk⟩ := hrel
   by_cases hlt : k < nf
   ·have hkl : k < fs.length := by have := HNF.out; omega
    have hltI : (k : Int) < (nf : Int) := by omega
    have HM : Hid (m ≤ 200000000) := by
     have h1 := HBk.out.len
     have h2 := (HFL k (by have := HN6.out; omega)).out
     have h3 := HDL.out
     rw [List.length_append] at h1
     have := HN6.out
     have h9 := HDM.out
     unfold Hid
     omega
    obtain ⟨gf, o, f, rfl, hgB, hfk, hfa⟩ := (HF.out.kept HBk.out.kept (fun _ _ f => f)).at hkl
    obtain ⟨co, cc, r0, r1, r2, r3, hrow, _⟩ := Zbr hfa
    have HRW : Hid (RowI w (.slice co f.code.length cc) f.code) := by
     obtain ⟨gf2, o2, f2, e2, hgB2, hfk2, hfa2⟩ := HF.out.at hkl
     cases e2
     have ef : f2 = f := by rw [hfk] at hfk2; exact (Option.some.inj hfk2).symm
     subst ef
     obtain ⟨cv, q1, q2, _⟩ := hfa2
     have hq : HBk.out.kept.cell (q1 3 _ rfl) id = HBk.out.kept.cell (q1 3 _ rfl) id := rfl
     have hq3 := HBk.out.kept.cell (q1 3 _ rfl) id
     rw [r3] at hq3
     cases hq3
     exact q2
    have HFI := Za (List.mem_of_getElem? hfk)
    have HSU : Hid (Xq (nf : Int) fs (k + 1) = Xq (nf : Int) fs k ++ fnD k f (nf : Int)) := by
     show _ = _
     rw [Zd6]
     simp only [Zd5, hfk]
    have hkc : Kept nF wr (wr.alloc (.cells #[.int .i64 f.a, .int .i64 f.l, .int .i64 f.r, .slice co f.code.length cc] 78)) := (Kept.refl _ _).alloc _
    have HY := Za (heap_alloc_new wr (.cells #[.int .i64 f.a, .int .i64 f.l, .int .i64 f.r, .slice co f.code.length cc] 78))
    have HB5 := Za (HBk.out.same hkc)
    have HK1 : Hid (k + 1 ≤ nf) := hlt
    clear hkc hfa hrow hfk hgB HBk HK hkl hlt
    obtain ⟨fa, fl, fr, ys⟩ := f
    simp only at r0 r1 r2 r3 HY HB5 HRW HFI HSU
    go_upto_region 10 with fail
    clear r0 r1 r2 r3
    generalize wr.alloc (.cells #[.int .i64 fa, .int .i64 fl, .int .i64 fr, .slice co ys.length cc] 78) = w5 at *
    generalize wr.heap.size = gy at *
    obtain ⟨y0, y1, y2, y3, _⟩ := Yk HY.out
    obtain ⟨x0, x1, x2, _⟩ := Zx (Oth5.box HB5.out.oth HX.out (by decide))
    have HFU := Za (Ziu a m c (.slice co ys.length cc) _ k ⟨fa, fl, fr, ys⟩ (nf : Int) (HOK.out.fns _ HFI.out) (HPG.out.fn _ HFI.out).1 (by have := HK1.out; have := HN6.out; omega) (fun y hy => Zgr ((HPG.out.fn _ HFI.out).2 y hy)) w wa w5 HG.out.lo HG.out HB5.out (by have := HM.out; omega) HRW.out)
    go_wp2_with fail
    refine HFU.out.mono ?_
    rintro e w6 ⟨a6, m6, c6, rfl, hb6⟩
    have HB6 : Hid (Bs w wa w6 a6 m6 c6 (HD ++ Xq (nf : Int) fs (k + 1))) := by
     show Bs w wa w6 a6 m6 c6 _
     rw [HSU.out]
     simpa only [List.append_assoc] using hb6
    clear hb6 HFU HB5 HY x0 x1 x2 y0 y1 y2 y3
    have hkB : (k : Int) < 64 := by have := HK1.out; have := HN6.out; omega
    go_wp2
    go_roundw
    case rel => exact ⟨k + 1, _, _, _, by go_num, rfl, HK1, HB6⟩
    case measure => have := HK1.out; simp [intOf]; omega
   ·have hkn : k = nf := by have := HK.out; omega
    subst hkn
    have hnlt : ¬ (k : Int) < (k : Int) := by omega
    have HFF : Hid (Zau ⟨mem, ds, fs⟩ = HD ++ Xq (k : Int) fs k) := HPD.out
    clear hlt
    go_wp2
    go_ret
    exact ⟨_, _, _, rfl, by rw [HFF.out]; exact HBk.out.own, HBk.out.kept⟩
def Zd9 : Value → Int
 | .int _ x => x
 | _ => 0
def U8s (zs : List Value) : Prop := ∀ v ∈ zs, ∃ x : Int, v = .int .u8 x
theorem U8s.eq {zs : List Value} (h : U8s zs) : zs = Zo (zs.map Zd9) := by
 induction zs with
 | nil => rfl
 | cons z zs ih =>
  obtain ⟨x, rfl⟩ := h z (by simp)
  have := ih (fun v hv => h v (by simp [hv]))
  exact congrArg (Value.int .u8 x :: ·) this
theorem U8s.app {a b : List Value} (ha : U8s a) (hb : U8s b) : U8s (a ++ b) := fun v hv => by
 rcases List.mem_append.1 hv with h | h
 ·exact ha v h
 ·exact hb v h
theorem U8s.cons {x : Int} {b : List Value} (hb : U8s b) : U8s (.int .u8 x :: b) := fun v hv => by
 rcases List.mem_cons.1 hv with h | h
 ·exact ⟨x, h⟩
 ·exact hb v h
theorem U8s.nil : U8s [] := fun v hv => by simp at hv
theorem U8s.str (s : ByteArray) : U8s (Lib.strCells s) := fun v hv => by
 simp only [Lib.strCells, List.mem_map] at hv
 obtain ⟨x, _, rfl⟩ := hv
 exact ⟨_, rfl⟩
theorem U8s.bts (l : List UInt8) : U8s (Lib.byteCells l) := fun v hv => by
 simp only [Lib.byteCells, List.mem_map] at hv
 obtain ⟨x, _, rfl⟩ := hv
 exact ⟨_, rfl⟩
theorem U8s.ints (l : List Int) : U8s (Zo l) := fun v hv => by
 obtain ⟨x, _, rfl⟩ := List.mem_map.1 hv
 exact ⟨x, rfl⟩
theorem U8s.flat {α : Type} {l : List α} {f : α → List Value} (h : ∀ x ∈ l, U8s (f x)) : U8s (l.flatMap f) := fun v hv => by
 obtain ⟨x, hx, hm⟩ := List.mem_flatMap.1 hv
 exact h x hx v hm
theorem Zmi (i : Int) : U8s (Zb9 i) := (U8s.bts _).cons
theorem Zu0 (op a pl fs : Int) : U8s (Zdt op a pl fs) := by
 have h : U8s (We (Yd Zj op) a pl fs) := by
  unfold We
  split
  ·exact U8s.nil
  ·split
   ·exact (U8s.bts _).cons.cons
   ·split
    ·exact (U8s.bts _).cons.cons
    ·split
     ·exact (U8s.str _).cons
     ·exact (U8s.bts _).cons
 unfold Zdt
 exact (((U8s.str _).cons).app h).app U8s.nil.cons
theorem Zu1 (b : Bool) (k : Nat) : U8s (Wm b k) := by
 unfold Wm
 split
 ·exact ((U8s.bts _).cons).app (U8s.str _)
 ·exact U8s.nil
theorem Zwc (k : Nat) (f : FN) (fs : Int) : U8s (fnD k f fs) := by
 unfold fnD
 refine (U8s.app ?_ U8s.nil.cons).app ?_
 ·unfold hdF
  exact ((U8s.str _).app (U8s.bts _).cons).app (U8s.flat (fun x _ => Zmi x))
 ·unfold Wf
  refine U8s.flat (fun n _ => (Zu1 _ _).app ?_)
  unfold Zb6
  split
  ·exact Zu0 _ _ _ _
  ·exact U8s.nil
theorem Zku (p : PG) : U8s (Zau p) := by
 unfold Zau headD Xq
 refine U8s.app (U8s.app (U8s.app (U8s.app ?_ (Zmi _)) U8s.nil.cons) ?_) (U8s.flat (fun n _ => ?_))
 ·exact U8s.nil.cons.cons.cons.cons.cons.cons
 ·unfold Zbs
  split
  ·exact U8s.nil
  ·exact ((U8s.str _).app (U8s.ints _)).app U8s.nil.cons
 ·unfold Zd5
  split
  ·exact Zwc _ _ _
  ·exact U8s.nil
def Zbz (p : PG) : Int := if Ya p = 0 then (if 65536 < (Zau p).length then 2 else 0) else Ya p
def Zda (p : PG) : ByteArray := if Zbz p = 0 then str ((Zau p).map Zd9) else ⟨#[]⟩
theorem Ziw (v : Value) (p : PG) (B : Nat) (w : World) (hG : Gl w) (hP : PgIs w B v p) (hB : B ≤ w.heap.size) (hok : p.Ok) :
  Calls Tryz.prog 14 #[v] w fun e w' => e = .returned (.tuple #[.string (Zda p), .int .i64 (Zbz p)]) ∧ Kept nF w w' := by
 have hpg := hP
 obtain ⟨dv, fv, rfl, hd, hdB, hf⟩ := hP
 obtain ⟨dao, dc, rfl⟩ := hd.shape
 obtain ⟨fao, fc, rfl⟩ := hf.shape
 have hka : Kept nF w (w.alloc (.cells #[.int .i64 p.mem, .slice dao p.data.length dc, .slice fao p.fns.length fc] 26)) := (Kept.refl _ _).alloc _
 have HX := Za (heap_alloc_new w (.cells #[.int .i64 p.mem, .slice dao p.data.length dc, .slice fao p.fns.length fc] 26))
 have HCK := Za (Zmn _ p _ B (hpg.kept hka (fun _ _ f => f)) (Nat.le_trans hB hka.size) hok)
 have HPG := Za (hpg.kept hka (fun _ _ f => f))
 have HG := Za (hG.same hka)
 have HK := Za hka
 have HOK := Za hok
 have HE : Hid (Zbz p = if Ya p = 0 then (if 65536 < (Zau p).length then 2 else 0) else Ya p) := rfl
 have HS : Hid (Zda p = if Zbz p = 0 then str ((Zau p).map Zd9) else ⟨#[]⟩) := rfl
 clear hka hpg hd hdB hf hG hB hok
 generalize Zbz p = pe at *
 generalize Zda p = ps at *
 have HCE : Hid (Ya p = 0 → PgGood p) := Zha
 generalize Ya p = ce at *
 go_enter Tryz.func14, Tryz.ntmps14
 go_upto_region 1 with fail
 generalize w.alloc (.cells #[.int .i64 p.mem, .slice dao p.data.length dc, .slice fao p.fns.length fc] 26) = wa at *
 generalize w.heap.size = gx at *
 obtain ⟨x0, x1, x2, _⟩ := Zx HX.out
 go_wp2_with fail
 refine HCK.out.mono ?_
 rintro e w2 ⟨rfl, hk2⟩
 have HX2 := Za (Zc hk2 HX.out id)
 have HK2 := Za (HK.out.trans hk2)
 by_cases hz : ce = 0
 ·have HPEz : Hid (pe = if 65536 < (Zau p).length then 2 else 0) := by show pe = _; rw [HE.out, if_pos hz]
  subst hz
  clear HE
  have HW := Za (Zlm _ _ p B w2 (HG.out.same hk2) (HPG.out.kept hk2 (fun _ _ f => f)) HOK.out (HCE.out rfl))
  clear hk2 HCK HX HG HPG HK x0 x1 x2 HOK HCE
  obtain ⟨x0, x1, x2, _⟩ := Zx HX2.out
  go_wp2_with fail
  refine HW.out.mono ?_
  rintro e w3 ⟨a, m, c, rfl, ho, hk3⟩
  have HK3 := Za (HK2.out.trans hk3)
  have hm : m = (Zau p).length := by have := ho.1; omega
  clear hk3 HW HX2 HK2 x0 x1 x2
  by_cases hl : 65536 < m
  ·have hlI : (m : Int) > 65536 := by omega
   have HPE : Hid (pe = 2) := by show pe = 2; rw [HPEz.out, if_pos (by omega)]
   have HPS : Hid (ps = ⟨#[]⟩) := by show ps = _; rw [HS.out, if_neg (by rw [HPE.out]; decide)]
   clear ho hm hl HPEz HS
   go_wp2
   refine bodyPost_ret (results_tmp2 rfl _ _ _) rfl ?_
   exact ⟨by rw [HPE.out, HPS.out]; rfl, HK3.out⟩
  ·have hlI : ¬ (m : Int) > 65536 := by omega
   have HPE : Hid (pe = 0) := by show pe = 0; rw [HPEz.out, if_neg (by omega)]
   have HPS : Hid (ps = str ((Zau p).map Zd9)) := by show ps = _; rw [HS.out, if_pos HPE.out]
   rw [(Zku p).eq] at ho
   have hcv := Zaf w3 (.slice a m c) ((Zau p).map Zd9) (Zbc ho)
   clear ho hm hl HPEz HS
   generalize (Zau p).map Zd9 = PD at *
   go_wp2
   refine bodyPost_ret (results_tmp2 rfl _ _ _) rfl ?_
   exact ⟨by rw [HPE.out, HPS.out]; rfl, HK3.out⟩
 ·have HPE : Hid (pe = ce) := by show pe = ce; rw [HE.out, if_neg hz]
  have HPS : Hid (ps = ⟨#[]⟩) := by show ps = _; rw [HS.out, if_neg (by rw [HPE.out]; exact hz)]
  have hzb : (ce == 0) = false := by simp [hz]
  have hzn : (ce != 0) = true := by simp [hz]
  clear hk2 HCK HX HG HPG HK x0 x1 x2 HOK HCE HX2 HE HS hz
  go_wp2
  refine bodyPost_ret (results_tmp2 rfl _ _ _) rfl ?_
  exact ⟨by rw [HPE.out, HPS.out]; rfl, HK2.out⟩
end Go.Proofs.YtgoabnehdmdikaaGreatDoor

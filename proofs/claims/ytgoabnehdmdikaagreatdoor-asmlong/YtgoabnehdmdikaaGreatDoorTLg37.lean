import Derived.Test.YtgoabnehdmdikaaGreatDoorTLg36
set_option linter.unusedVariables false
set_option linter.unusedSimpArgs false
set_option maxRecDepth 100000
set_option maxHeartbeats 64000000
namespace Go.Proofs.YtgoabnehdmdikaaGreatDoor
open Go.RowKit
theorem Zpr {y : IN} (h : Xl y = 0) : ∃ k : Nat, y.op = (k : Int) ∧ k < 46 := by
 unfold Xl at h
 by_cases hr : Xb Zj y.op = true
 ·have hr2 := of_decide_eq_true hr
  obtain ⟨i, hi⟩ := Int.eq_ofNat_of_zero_le hr2.1
  exact ⟨i, hi, by have := hr2.2; have e : Zj.length = 46 := rfl; omega⟩
 ·rw [if_neg hr] at h
  exact absurd h (by decide)
theorem Znp (v : Value) (p : PG) (B : Nat) (w : World) (hP : PgIs w B v p) (hB : B ≤ w.heap.size) (hok : p.Ok) :
  Calls Tryz.prog 15 #[v] w fun e w' => e = .returned (.tuple #[.string (Zda p), .int .i64 (Zbz p)]) ∧ Kept nF w w' := by
 have hpg := hP
 obtain ⟨dv, fv, rfl, hd, hdB, hf⟩ := hP
 obtain ⟨dao, dc, rfl⟩ := hd.shape
 obtain ⟨fao, fc, rfl⟩ := hf.shape
 have HE : Hid (Zbz p = if Ya p = 0 then (if 65536 < (Zau p).length then 2 else 0) else Ya p) := rfl
 have HS : Hid (Zda p = if Zbz p = 0 then str ((Zau p).map Zd9) else ⟨#[]⟩) := rfl
 have HU := Za (Zku p)
 have HPD : Hid (Zau p = headD p ++ Xq (p.fns.length : Int) p.fns p.fns.length) := rfl
 have HHD : Hid (headD p = Zca ++ Zb9 p.mem ++ [.int .u8 10] ++ Zbs p.data) := rfl
 have HDL := Za (Ziv p hok)
 have HFNL := fun (hg : PgGood p) k hk => Zgs (p.fns.length : Int) p.fns (fun f hf => ⟨hok.fns f hf, (hg.fn f hf).1⟩) k hk
 have HCE : Hid (Ya p = 0 → PgGood p) := Zha
 have HOK := Za hok
 generalize Zbz p = pe at *
 generalize Zda p = ps at *
 have hka : Kept nF w (w.alloc (.cells #[.int .i64 p.mem, .slice dao p.data.length dc, .slice fao p.fns.length fc] 26)) := (Kept.refl _ _).alloc _
 have HX := Za (heap_alloc_new w (.cells #[.int .i64 p.mem, .slice dao p.data.length dc, .slice fao p.fns.length fc] 26))
 have HCK := Za (Zg6 _ p _ B (hpg.kept hka (fun _ _ f => f)) (Nat.le_trans hB hka.size) hok)
 have HK := Za hka
 have HD := Za hd
 have HF := Za hf
 clear hka hpg hd hdB hf hok hB
 generalize Ya p = ce at *
 obtain ⟨mem, ds, fs⟩ := p
 simp only at HX HCK HK HD HF HPD HHD HDL HFNL HE HS HU ⊢
 generalize Zau ⟨mem, ds, fs⟩ = PD at *
 obtain ⟨nf, hnf⟩ := nmd (fs.length)
 obtain ⟨nd, hnd⟩ := nmd (ds.length)
 rw [← hnf] at HX HCK HK HF HPD HFNL ⊢
 rw [← hnd] at HX HCK HK HD HDL ⊢
 have HNF := Za hnf
 have HND := Za hnd
 clear hnf hnd
 go_enter Tryz.func15, Tryz.ntmps15
 go_upto_region 1 with fail
 generalize w.alloc (.cells #[.int .i64 mem, .slice dao nd dc, .slice fao nf fc] 26) = wa at *
 generalize hgx : w.heap.size = gx at HX ⊢
 clear hgx
 obtain ⟨x0, x1, x2, _⟩ := Zx HX.out
 go_wp2_with fail
 refine HCK.out.mono ?_
 rintro e w2 ⟨rfl, hk2⟩
 have HX2 := Za (Zc hk2 HX.out id)
 have HK2 := Za (HK.out.trans hk2)
 clear hk2 HCK HX HK x0 x1 x2
 obtain ⟨x0, x1, x2, _⟩ := Zx HX2.out
 by_cases hz : ce = 0
 rotate_left
 ·have HPE : Hid (pe = ce) := by show pe = ce; rw [HE.out, if_neg hz]
  have HPS : Hid (ps = ⟨#[]⟩) := by show ps = _; rw [HS.out, if_neg (by rw [HPE.out]; exact hz)]
  have hzb : (ce == 0) = false := by simp [hz]
  have hzn : (ce != 0) = true := by simp [hz]
  clear HOK HCE HX2 HE HS hz x0 x1 x2 HFNL HD HF
  go_wp2
  refine bodyPost_ret (results_tmp2 rfl _ _ _) rfl ?_
  exact ⟨by rw [HPE.out, HPS.out]; rfl, HK2.out⟩
 have HPEz : Hid (pe = if 65536 < PD.length then 2 else 0) := by show pe = _; rw [HE.out, if_pos hz]
 have HPG := Za (HCE.out hz)
 subst hz
 have HFL := fun k hk => Za (HFNL HPG.out k hk)
 have HDM : Hid (nd ≤ 65536) := by show nd ≤ 65536; have h1 := HPG.out.data; have h2 := HPG.out.mem.2; have := HND.out; simp only at h1 h2; omega
 have HN6 : Hid (nf ≤ 64) := by show nf ≤ 64; have := HPG.out.fns.2; have := HNF.out; simp only at *; omega
 clear HE HCE HFNL
 have HMC := Za (Zpp mem)
 have HDC0 := fun W => Za9 mem HOK.out.mem.1 (by have := HOK.out.mem.2; simp only at this; omega) W
 have hds := Zb0 mem HOK.out.mem.1 HOK.out.mem.2
 go_wp2_with fail
 refine (HDC0 w2).mono ?_
 rintro e w3 ⟨rfl, hk3⟩
 rw [show (⟨(Lib.itoa mem).toArray⟩ : ByteArray) = Wb mem from rfl]
 clear HDC0
 generalize Wb mem = dm at *
 obtain ⟨c4, w4, hr4, hb4, hk4⟩ := Zpo w w3 (HK2.out.trans hk3) ((⟨#[109, 101, 109, 111, 114, 121, 32]⟩ : ByteArray) ++ dm ++ ⟨#[10]⟩)
 obtain ⟨n4, hn4⟩ := nmd (((⟨#[109, 101, 109, 111, 114, 121, 32]⟩ : ByteArray) ++ dm ++ ⟨#[10]⟩).size)
 rw [← hn4] at hr4 hb4
 have HZ2 : Hid (n4 ≤ 100) := by
  show n4 ≤ 100
  have e1 : (⟨#[109, 101, 109, 111, 114, 121, 32]⟩ : ByteArray).size = 7 := rfl
  have e2 : (⟨#[10]⟩ : ByteArray).size = 1 := rfl
  rw [hn4, ByteArray.size_append, ByteArray.size_append, e1, e2]
  omega
 have HB4 : Hid (Bm w w2 w4 w3.heap.size n4 c4 (Zca ++ Zb9 mem ++ [.int .u8 10])) := by
  have h := hb4.rebase (Zab (hk3.trans hk4))
  rw [HMC.out] at h
  exact h
 have hq1 : ¬ (9223372036854775807 : Nat) < 7 + dm.size := by omega
 have hq2 : ¬ (9223372036854775807 : Nat) < 7 + dm.size + 1 := by omega
 clear hk3 hk4 hb4 hn4 x0 x1 x2 hds HMC
 obtain ⟨x0, x1, x2, _⟩ := Zx (Oth5.box HB4.out.oth HX2.out (by decide))
 generalize w3.heap.size = g4 at *
 go_upto_if 27 with fail
 clear hq1 hq2 hr4 x0 x1 x2
 go_cut [5] from 27 to 34 (fun v5 wx => ∃ (g m c : Nat), v5 = .slice (some ⟨g, 0, none⟩) m c ∧ Bm w w2 wx g m c (headD ⟨mem, ds, fs⟩))
 case first =>
  obtain ⟨x0, x1, x2, _⟩ := Zx (Oth5.box HB4.out.oth HX2.out (by decide))
  by_cases hnz : nd = 0
  ·have HBF : Hid (Bm w w2 w4 g4 n4 c4 (headD ⟨mem, ds, fs⟩)) := by
    show Bm w w2 w4 g4 n4 c4 _
    rw [HHD.out, show Zbs ds = [] by unfold Zbs; rw [if_pos (by have := HND.out; omega)], List.append_nil]
    exact HB4.out
   have hnn : ¬ ((nd : Int) > 0) := by omega
   have hnd0 : decide ((0 : Int) < (nd : Int)) = false := by simp; omega
   clear hnz
   go_wp2_with fail
   go_meet
   exact ⟨_, _, _, rfl, HBF.out⟩
  ·have hnI : (0 : Int) < (nd : Int) := by omega
   have hnd0 : decide ((0 : Int) < (nd : Int)) = true := by simp; omega
   have HNZ := Za hnz
   clear hnz
   have HDT := Za (Zno ds HOK.out.data.1)
   have HQU := Za (Znm (.slice dao nd dc) ds w4 (HD.out.kept HB4.out.kept (fun _ _ f => f)) HOK.out.data.1 (by have := HDM.out; have := HND.out; omega))
   have hsq : (str (Xr ds)).size ≤ 270000 := by rw [Zbj]; have := Ze9 ds; have := HDM.out; have := HND.out; omega
   go_wp2_with fail
   refine HQU.out.mono ?_
   rintro e w5 ⟨rfl, hk5⟩
   clear HQU
   generalize str (Xr ds) = sq at *
   have hb5 := HB4.out.same hk5
   obtain ⟨g6, m6, c6, w6, hr6, hb6⟩ := hb5.pushS ((⟨#[100, 97, 116, 97, 32]⟩ : ByteArray) ++ sq ++ ⟨#[10]⟩) (by
    have e1 : (⟨#[100, 97, 116, 97, 32]⟩ : ByteArray).size = 5 := rfl
    have e2 : (⟨#[10]⟩ : ByteArray).size = 1 := rfl
    rw [ByteArray.size_append, ByteArray.size_append, e1, e2]
    have := HZ2.out
    omega)
   have HR6 := Za hr6
   have HBF : Hid (Bm w w2 w6 g6 m6 c6 (headD ⟨mem, ds, fs⟩)) := by
    show Bm w w2 w6 g6 m6 c6 _
    rw [HHD.out, show Zbs ds = Lib.strCells ⟨#[100, 97, 116, 97, 32]⟩ ++ Zo (Xr ds) ++ [.int .u8 10] by unfold Zbs; rw [if_neg (by have := HND.out; have := HNZ.out; omega)], ← HDT.out]
    exact hb6
   have hq1 : ¬ (9223372036854775807 : Nat) < 5 + sq.size := by omega
   have hq2 : ¬ (9223372036854775807 : Nat) < 5 + sq.size + 1 := by omega
   clear hb5 hb6 hr6 hk5
   go_wp2_with (at_builtin; refine Zr rfl (.tmp 28) (.tmp 33) 23 9 rfl _ _ rfl rfl _ w6 HR6.out ?_)
   go_meet
   exact ⟨_, _, _, rfl, HBF.out⟩
 case rest =>
  obtain ⟨g5, m5, c5, rfl, hb5⟩ := hcut
  have HB5 : Hid (Bm w w2 wc g5 m5 c5 (headD ⟨mem, ds, fs⟩ ++ Xq (nf : Int) fs 0)) := by
   show Bm w w2 wc g5 m5 c5 _
   rw [show Xq (nf : Int) fs 0 = [] from rfl, List.append_nil]
   exact hb5
  clear hb5 HB4 HHD
  generalize headD ⟨mem, ds, fs⟩ = HED at *
  go_wp2_with fail
  go_loopw [5, 6] (fun ov iv wr => ∃ (k g m c : Nat), iv = .int .i64 (k : Int) ∧ ov = .slice (some ⟨g, 0, none⟩) m c ∧ Hid (k ≤ nf) ∧ Hid (Bm w w2 wr g m c (HED ++ Xq (nf : Int) fs k))) (fun _ iv _ => nf - (intOf iv).toNat)
  case atStart => exact ⟨0, _, _, _, rfl, rfl, Nat.zero_le _, HB5⟩
  case round =>
   clear HB5 HZ2
   obtain ⟨k, g, m, c, rfl, rfl, HK, HBk⟩ := hrel
   obtain ⟨x0, x1, x2, _⟩ := Zx (Oth5.box HBk.out.oth HX2.out (by decide))
   have HM : Hid (m ≤ 200000000) := by
    have h1 := HBk.out.len
    have h2 := (HFL k (by have := HN6.out; have := HK.out; omega)).out
    have h3 := HDL.out
    rw [List.length_append] at h1
    have := HN6.out
    have := HK.out
    have h9 := HDM.out
    unfold Hid
    omega
   by_cases hlt : k < nf
   rotate_left
   ·have hkn : k = nf := by have := HK.out; omega
    subst hkn
    have hnlt : ¬ (k : Int) < (k : Int) := by omega
    have HFF : Hid (PD = HED ++ Xq (k : Int) fs k) := HPD.out
    have HBF : Hid (Bm w w2 wr g m c PD) := by show Bm w w2 wr g m c PD; rw [HFF.out]; exact HBk.out
    have HKF := Za HBF.out.kept
    have hlen := HBF.out.len
    clear hlt HBk HPD HFF
    by_cases hl : 65536 < m
    ·have hlI : (65536 : Int) < (m : Int) := by omega
     have HPE : Hid (pe = 2) := by show pe = 2; rw [HPEz.out, if_pos (by omega)]
     have HPS : Hid (ps = ⟨#[]⟩) := by show ps = _; rw [HS.out, if_neg (by rw [HPE.out]; decide)]
     clear HBF hlen hl HS HPEz
     go_wp2
     refine bodyPost_ret (results_tmp2 rfl _ _ _) rfl ?_
     exact ⟨by rw [HPE.out, HPS.out]; rfl, HKF.out⟩
    ·have hlI : ¬ (65536 : Int) < (m : Int) := by omega
     have HPE : Hid (pe = 0) := by show pe = 0; rw [HPEz.out, if_neg (by omega)]
     have HPS : Hid (ps = str (PD.map Zd9)) := by show ps = _; rw [HS.out, if_pos HPE.out]
     have hbf := HBF.out
     rw [HU.out.eq] at hbf
     have hcv := Zaf wr (.slice (some ⟨g, 0, none⟩) m c) (PD.map Zd9) hbf.isB
     clear HBF hlen hl hbf HS HPEz
     generalize PD.map Zd9 = PI at *
     go_wp2
     refine bodyPost_ret (results_tmp2 rfl _ _ _) rfl ?_
     exact ⟨by rw [HPE.out, HPS.out]; rfl, HKF.out⟩
   have hkl : k < fs.length := by have := HNF.out; omega
   have hltI : (k : Int) < (nf : Int) := by omega
   obtain ⟨gf, o, f, rfl, hgB, hfk, hfa⟩ := (HF.out.kept HBk.out.kept (fun _ _ f => f)).at hkl
   obtain ⟨co, cc, r0, r1, r2, r3, hrow, _⟩ := Zbr hfa
   have HRW : Hid (RowI w (.slice co f.code.length cc) f.code) := by
    obtain ⟨gf2, o2, f2, e2, hgB2, hfk2, hfa2⟩ := HF.out.at hkl
    cases e2
    have ef : f2 = f := by rw [hfk] at hfk2; exact (Option.some.inj hfk2).symm
    subst ef
    obtain ⟨cv, q1, q2, _⟩ := hfa2
    have hq3 := HBk.out.kept.cell (q1 3 _ rfl) id
    rw [r3] at hq3
    cases hq3
    exact q2
   have HFI := Za (List.mem_of_getElem? hfk)
   have HSU0 : Hid (Xq (nf : Int) fs (k + 1) = Xq (nf : Int) fs k ++ fnD k f (nf : Int)) := by
    show _ = _
    rw [Zd6]
    simp only [Zd5, hfk]
   have hkc : Kept nF wr (wr.alloc (.cells #[.int .i64 f.a, .int .i64 f.l, .int .i64 f.r, .slice co f.code.length cc] 78)) := (Kept.refl _ _).alloc _
   have HY := Za (heap_alloc_new wr (.cells #[.int .i64 f.a, .int .i64 f.l, .int .i64 f.r, .slice co f.code.length cc] 78))
   have HB5 := Za (HBk.out.here hkc)
   have HT5 := Za (HBk.out.oth.trans (Zab hkc))
   have HK1 : Hid (k + 1 ≤ nf) := hlt
   have HFO := Za (HOK.out.fns _ HFI.out)
   have HFG := Za (HPG.out.fn _ HFI.out)
   have HLC := Za (Znn k f)
   have HFD : Hid (fnD k f (nf : Int) = hdF k f 3 ++ [.int .u8 10] ++ Wf (Yu f.code) (f.code.length : Int) (nf : Int) f.code (f.code.length + 1)) := rfl
   have HHL := Za (Zhx k f (by have := HN6.out; have := HK.out; omega) HFO.out 3)
   have HBL := fun j (hj : j ≤ 4097) => Za (Ze8 (Yu f.code) (f.code.length : Int) (nf : Int) f.code HFO.out.code j (by omega))
   have D0 := fun W => Za9 (k : Int) (by omega) (by have := HK.out; have := HN6.out; omega) W
   have D1 := fun W => Za9 f.a HFO.out.a.1 (by have := HFO.out.a.2; omega) W
   have D2 := fun W => Za9 f.l HFO.out.l.1 (by have := HFO.out.l.2; omega) W
   have D3 := fun W => Za9 f.r HFO.out.r.1 (by have := HFO.out.r.2; omega) W
   have z0 := Zb0 (k : Int) (by omega) (by have := HK.out; have := HN6.out; omega)
   have z1 := Zb0 f.a HFO.out.a.1 HFO.out.a.2
   have z2 := Zb0 f.l HFO.out.l.1 HFO.out.l.2
   have z3 := Zb0 f.r HFO.out.r.1 HFO.out.r.2
   clear hkc hfa hrow hfk hgB HBk hkl hlt
   obtain ⟨fa, fl, fr, ys⟩ := f
   simp only at r0 r1 r2 r3 HY HB5 HRW HFI HSU0 HT5 HFO HFG HLC HFD HHL HBL D1 D2 D3 z1 z2 z3
   obtain ⟨pl, hpl⟩ := nmd (ys.length)
   rw [← hpl] at r3 HY HB5 HT5 HRW HFG HFD HBL
   have HPL := Za hpl
   clear hpl
   go_upto_region 11 with fail
   clear r0 r1 r2 r3 x0 x1 x2
   generalize wr.alloc (.cells #[.int .i64 fa, .int .i64 fl, .int .i64 fr, .slice co pl cc] 78) = w5 at *
   generalize wr.heap.size = gy at *
   have HSM : Hid (∀ w', Lib.OthersKept 5 none w5 w' → w'.cell? ⟨gy, 0, none⟩ = some (.int .i64 fa) ∧ w'.cell? ⟨gy, 1, none⟩ = some (.int .i64 fl) ∧ w'.cell? ⟨gy, 2, none⟩ = some (.int .i64 fr)) := fun w' hw => by
    obtain ⟨q0, q1, q2, _⟩ := Yk (Oth5.box hw HY.out (by decide))
    exact ⟨q0, q1, q2⟩
   have hKwd : Kept nF w5 w5.drew := (Kept.refl _ _).drew
   have hbd := HB5.out.same hKwd
   refine wp_region_held_drew (S := fun w' => Lib.OthersKept 5 none w5 w') (by kernel_rfl) hbd.oth (fun qh => ?_)
   generalize w5.drew = wd at *
   rw [show ∀ i : Int, (⟨(Lib.itoa i).toArray⟩ : ByteArray) = Wb i from fun _ => rfl] at D0 D1 D2 D3
   generalize Wb (k : Int) = d0 at *
   generalize Wb fa = d1 at *
   generalize Wb fl = d2 at *
   generalize Wb fr = d3 at *
   have q1 : ¬ (9223372036854775807 : Nat) < 6 + d0.size := by omega
   have q2 : ¬ (9223372036854775807 : Nat) < 6 + d0.size + 1 := by omega
   have q3 : ¬ (9223372036854775807 : Nat) < 6 + d0.size + 1 + d1.size := by omega
   have q4 : ¬ (9223372036854775807 : Nat) < 6 + d0.size + 1 + d1.size + 1 := by omega
   have q5 : ¬ (9223372036854775807 : Nat) < 6 + d0.size + 1 + d1.size + 1 + d2.size := by omega
   have q6 : ¬ (9223372036854775807 : Nat) < 6 + d0.size + 1 + d1.size + 1 + d2.size + 1 := by omega
   have q7 : ¬ (9223372036854775807 : Nat) < 6 + d0.size + 1 + d1.size + 1 + d2.size + 1 + d3.size := by omega
   have q8 : ¬ (9223372036854775807 : Nat) < 6 + d0.size + 1 + d1.size + 1 + d2.size + 1 + d3.size + 1 := by omega
   have HZS : Hid (((⟨#[102, 117, 110, 99, 32, 102]⟩ : ByteArray) ++ d0 ++ ⟨#[32]⟩ ++ d1 ++ ⟨#[32]⟩ ++ d2 ++ ⟨#[32]⟩ ++ d3 ++ ⟨#[10]⟩).size ≤ 200) := by
    have e1 : (⟨#[102, 117, 110, 99, 32, 102]⟩ : ByteArray).size = 6 := rfl
    have e2 : (⟨#[10]⟩ : ByteArray).size = 1 := rfl
    have e3 : (⟨#[32]⟩ : ByteArray).size = 1 := rfl
    show _ ≤ _
    simp only [ByteArray.size_append, e1, e2, e3]
    omega
   clear hKwd z0 z1 z2 z3
   iterate 2
    refine tkn (v := ?_) 0 rfl ?_ ?_; rotate_left
    ·intro w hSw; have s0 := HSM.out w hSw; obtain ⟨s0, s1, s2⟩ := s0; go_simp; try with_reducible rfl
    try simp only [Act.put, tdy]
   iterate 2
    refine tkn (v := ?_) 5 rfl ?_ ?_; rotate_left
    ·intro w hSw; have s0 := HSM.out w hSw; obtain ⟨s0, s1, s2⟩ := s0; go_simp; try with_reducible rfl
    try simp only [Act.put, tdy]
   iterate 2
    refine tkn (v := ?_) 10 rfl ?_ ?_; rotate_left
    ·intro w hSw; have s0 := HSM.out w hSw; obtain ⟨s0, s1, s2⟩ := s0; go_simp; try with_reducible rfl
    try simp only [Act.put, tdy]
   iterate 2
    refine tkn (v := ?_) 15 rfl ?_ ?_; rotate_left
    ·intro w hSw; have s0 := HSM.out w hSw; obtain ⟨s0, s1, s2⟩ := s0; go_simp; try with_reducible rfl
    try simp only [Act.put, tdy]
   refine rdy 2 rfl (fun K hK => ?_)
   go_simp
   refine (D0 _).mono ?_
   rintro e wq0 ⟨rfl, hk0⟩
   have hbq0 := hbd.same hk0
   refine hK.out _ _ hbq0.oth (fun qh => ?_)
   clear hK K D0 hk0 hbd
   try simp only [Act.put, tdy]
   iterate 2
    refine tkn (v := ?_) 0 rfl ?_ ?_; rotate_left
    ·intro w hSw; have s0 := HSM.out w hSw; obtain ⟨s0, s1, s2⟩ := s0; go_simp; try with_reducible rfl
    try simp only [Act.put, tdy]
   refine rdy 7 rfl (fun K hK => ?_)
   go_simp
   refine (D1 _).mono ?_
   rintro e wq1 ⟨rfl, hk1⟩
   have hbq1 := hbq0.same hk1
   refine hK.out _ _ hbq1.oth (fun qh => ?_)
   clear hK K D1 hk1 hbq0
   try simp only [Act.put, tdy]
   iterate 2
    refine tkn (v := ?_) 0 rfl ?_ ?_; rotate_left
    ·intro w hSw; have s0 := HSM.out w hSw; obtain ⟨s0, s1, s2⟩ := s0; go_simp; try with_reducible rfl
    try simp only [Act.put, tdy]
   refine rdy 12 rfl (fun K hK => ?_)
   go_simp
   refine (D2 _).mono ?_
   rintro e wq2 ⟨rfl, hk2⟩
   have hbq2 := hbq1.same hk2
   refine hK.out _ _ hbq2.oth (fun qh => ?_)
   clear hK K D2 hk2 hbq1
   try simp only [Act.put, tdy]
   iterate 2
    refine tkn (v := ?_) 0 rfl ?_ ?_; rotate_left
    ·intro w hSw; have s0 := HSM.out w hSw; obtain ⟨s0, s1, s2⟩ := s0; go_simp; try with_reducible rfl
    try simp only [Act.put, tdy]
   refine rdy 17 rfl (fun K hK => ?_)
   go_simp
   refine (D3 _).mono ?_
   rintro e wq3 ⟨rfl, hk3⟩
   have hbq3 := hbq2.same hk3
   refine hK.out _ _ hbq3.oth (fun qh => ?_)
   clear hK K D3 hk3 hbq2
   try simp only [Act.put, tdy]
   iterate 2
    refine tkn (v := ?_) 0 rfl ?_ ?_; rotate_left
    ·intro w hSw; have s0 := HSM.out w hSw; obtain ⟨s0, s1, s2⟩ := s0; go_simp; try with_reducible rfl
    try simp only [Act.put, tdy]
   obtain ⟨g6, m6, c6, w6, hr6, hb6⟩ := hbq3.pushS ((⟨#[102, 117, 110, 99, 32, 102]⟩ : ByteArray) ++ d0 ++ ⟨#[32]⟩ ++ d1 ++ ⟨#[32]⟩ ++ d2 ++ ⟨#[32]⟩ ++ d3 ++ ⟨#[10]⟩) (by have := HZS.out; have := HM.out; omega)
   have HM6 : Hid (m6 ≤ 200000300) := by
    have h1 := hbq3.step hb6
    rw [Lib.strCells_length] at h1
    have := HZS.out
    have := HM.out
    show m6 ≤ 200000300
    omega
   have HR6 := Za hr6
   have HB6 := Za hb6
   clear hr6 hb6 hbq3
   refine rdy 20 rfl (fun K hK => ?_)
   refine Zm rfl (.tmp 47) (.tmp 66) 23 9 rfl _ _ rfl rfl (.slice (some ⟨g6, 0, none⟩) m6 c6) w6 HR6.out ?_
   refine hK.out _ _ HB6.out.oth (fun qh => ?_)
   clear hK K
   try simp only [Act.put, tdy]
   refine rdy 21 rfl (fun K hK => ?_)
   go_simp
   refine hK.out _ _ qh (fun qh => ?_)
   clear hK K
   try simp only [Act.put, tdy]
   refine wpAnyH_done (by kernel_rfl) ?_ _
   clear qh HSM HR6 q1 q2 q3 q4 q5 q6 q7 q8 HZS HM
   have HB7 : Hid (Bm w w6 w6 g6 m6 c6 (HED ++ Xq (nf : Int) fs k ++ (hdF k ⟨fa, fl, fr, ys⟩ 3 ++ [.int .u8 10]))) := by
    show Bm w w6 w6 g6 m6 c6 _
    rw [← HLC.out]
    exact HB6.out.here (Kept.refl _ _)
   have HT6 := Za (HT5.out.trans HB6.out.oth)
   have HY6 := Za (Oth5.box HB6.out.oth HY.out (by decide))
   obtain ⟨ZS, hZS⟩ := nmd (HED ++ Xq (nf : Int) fs k ++ (hdF k ⟨fa, fl, fr, ys⟩ 3 ++ [.int .u8 10]))
   rw [← hZS] at HB7
   have HB8L : Hid (ZS.length ≤ 200000300) := by show _ ≤ _; have h1 := HB7.out.len; have h2 := HM6.out; omega
   have HZ := Za hZS
   clear hZS HB6 HT5 HY HB5 HLC
   obtain ⟨y0, y1, y2, y3, _⟩ := Yk HY6.out
   have hmk := Zit w6 (pl + 1) (by have := HFG.out.1; have := HPL.out; simp only at *; omega)
   rw [Zmh, show ((pl + 1 : Nat) : Int) = (pl : Int) + 1 from rfl] at hmk
   have hPB : (pl : Int) ≤ 4096 := by have := HFG.out.1; have := HPL.out; simp only at *; omega
   have HPB := Za hPB
   have hw1 : IntKind.i64.wrap ((pl : Int) + 1) = (pl : Int) + 1 := by simp [IntKind.wrap, IntKind.bits, IntKind.signed]; omega
   have hkg : Kept nF w6 (w6.alloc (.cells ((List.replicate (pl + 1) false).map Value.bool).toArray 4)) := (Kept.refl _ _).alloc _
   have HGA := Za (heap_alloc_new w6 (.cells ((List.replicate (pl + 1) false).map Value.bool).toArray 4))
   have HKG := Za hkg
   clear hkg
   go_wp2_with fail
   rw [show Array.replicate (pl + 1) (Value.bool false) = ((List.replicate (pl + 1) false).map Value.bool).toArray by simp]
   obtain ⟨ga, hga⟩ := nmd (w6.heap.size)
   rw [← hga] at HGA ⊢
   have HGB : Hid (w6.heap.size ≤ ga) := by rw [hga]; exact Nat.le_refl _
   clear hga hmk hw1 y0 y1 y2 y3 hPB
   generalize w6.alloc (.cells ((List.replicate (pl + 1) false).map Value.bool).toArray 4) = w7 at *
   have HST : Hid (∀ (i : Nat) (h : i < ys.length), (ys.take (i + 1)).foldl (Wa pl) (List.replicate (pl + 1) false) = Wa pl ((ys.take i).foldl (Wa pl) (List.replicate (pl + 1) false)) (ys[i]'h)) := fun i h => by
    rw [List.take_succ_eq_append_getElem h, List.foldl_append]
    rfl
   have HAD : Hid (Yu ys = ys.foldl (Wa pl) (List.replicate (pl + 1) false)) := by have := HPL.out; subst this; rfl
   have HCL : Hid (∀ (i : Nat) (h : i < ys.length) (W : World), Kept nF w W → ∃ gc oc, co = some ⟨gc, oc, none⟩ ∧ W.cell? ⟨gc, oc + i * 2, none⟩ = some (.int .i64 (ys[i]'h).op) ∧ W.cell? ⟨gc, oc + i * 2 + 1, none⟩ = some (.int .i64 (ys[i]'h).a)) := fun i h W hW => by
    rcases HRW.out.kept hW (fun _ _ f => f) with ⟨h0, _⟩ | ⟨g, o, c, hv, hc⟩
    ·subst h0
     exact absurd h (Nat.not_lt_zero _)
    ·cases hv
     have := hc i (ys[i]'h) (List.getElem?_eq_getElem h)
     exact ⟨g, o, rfl, this 0 _ rfl, this 1 _ rfl⟩
   have HER : Hid (∀ y ∈ ys, Xl y = 0) := HFG.out.2
   have HYO : Hid (∀ y ∈ ys, y.Ok) := HFO.out.code
   go_loopw [9] (fun iv wr => ∃ (i : Nat), iv = .int .i64 (i : Int) ∧ Hid (i ≤ pl) ∧ Hid (Kept nF w6 wr) ∧ Hid (wr.heap[ga]? = some (.cells (((ys.take i).foldl (Wa pl) (List.replicate (pl + 1) false)).map Value.bool).toArray 4 (0, 0)))) (fun iv _ => pl - (intOf iv).toNat)
   case atStart => exact ⟨0, rfl, Nat.zero_le _, HKG, HGA⟩
   case round =>
    clear HKG HGA
    obtain ⟨i, rfl, HI, HKr, HXr⟩ := hrel
    obtain ⟨y0, y1, y2, y3, _⟩ := Yk (Zc HKr.out HY6.out id)
    by_cases hlt : i < pl
    ·have hil : i < ys.length := by have := HPL.out; omega
     have hltI : (i : Int) < (pl : Int) := by omega
     have hiB : (i : Int) < 4096 := by have := HPB.out; omega
     obtain ⟨gc, oc, rfl, r0, r1⟩ := HCL.out i hil wr (HB7.out.kept.trans HKr.out)
     have hmem := List.getElem_mem hil
     have her := HER.out _ hmem
     have hyo := HYO.out _ hmem
     have HS1 := Za (HST.out i hil)
     have hlen := Ze6 pl (ys.take i) (List.replicate (pl + 1) false)
     rw [List.length_replicate] at hlen
     generalize ((ys.take i).foldl (Wa pl) (List.replicate (pl + 1) false)) = L at *
     generalize hx : ys[i]'hil = x at *
     obtain ⟨op, a⟩ := x
     obtain ⟨kq, hop, hk46⟩ := Zpr her
     simp only at hop r0 r1
     subst hop
     have hjp : (kix kq = 3) → 0 ≤ a := fun h => Zgr her (by
      show (Yd Zj (kq : Int)).o = 3
      rw [(Zcd (L := Zj) hk46).1, ← Zkw kq hk46, h]
      rfl)
     have HSD : Hid (Wa pl L ⟨(kq : Int), a⟩ = if kix kq = 3 ∧ a < (pl : Int) + 1 then L.set a.toNat true else L) := by
      show _ = _
      unfold Wa
      rw [(Zcd (L := Zj) hk46).1, ← Zkw kq hk46]
      congr 1
      simp only [eq_iff_iff]
      omega
     have HOR := fun W => Zcb W kq hk46
     have HLN := Za hlen
     have HJP := Za hjp
     clear her hyo hmem hx hil hlen hjp hk46
     generalize kix kq = kk at *
     by_cases hkk : kk = 3
     ·subst hkk
      obtain ⟨b, rfl⟩ := Int.eq_ofNat_of_zero_le (HJP.out rfl)
      by_cases hab : b ≤ pl
      ·have habI : (b : Int) ≤ (pl : Int) := by omega
       go_upto_region 16 with fail
       go_quiet (first | (go_at_call 32; exact Calls.quiet_of_same (HOR _)))
       have HKd := Za (Yf HKr.out nq)
       have HXd := Za (Zc (Yf (Kept.refl nF wr) nq) HXr.out id)
       have hkd : Kept nF wr (wr.drewN nq) := Yf (Kept.refl _ _) nq
       have e0 := hkd.cell r0 id
       have e1 := hkd.cell r1 id
       obtain ⟨v0, v1, v2, v3, _⟩ := Yk (Zc HKd.out HY6.out id)
       clear hkd r0 r1 y0 y1 y2 y3 HKr HXr
       generalize wr.drewN nq = wn at *
       have hkL : b < L.length := by have := HLN.out; omega
       have z0 : wn.cell? ⟨ga, b, none⟩ = some (.bool (L[b]'hkL)) := by rw [Zb _ _ _ _ _ _ HXd.out]; simp [hkL]
       have f0 := Ze _ _ b _ _ HXd.out
       have hbI : (b : Int) < (pl : Int) + 1 := by omega
       have HX4 : Hid ((wn.setCell ⟨ga, b, none⟩ (.bool true)).heap[ga]? = some (.cells ((Wa pl L ⟨(kq : Int), (b : Int)⟩).map Value.bool).toArray 4 (0, 0))) := by
        show _ = _
        rw [Zf _ _ _ _ _ _ HXd.out, HSD.out, if_pos ⟨rfl, hbI⟩]
        simp
       have HK4 : Hid (Kept nF w6 (wn.setCell ⟨ga, b, none⟩ (.bool true))) := HKd.out.setCell (.inl HGB.out) _
       clear HXd HKd HSD HLN HJP HOR
       go_wp2
       go_roundw
       case rel => exact ⟨i + 1, by go_num, hlt, HK4, by rw [HS1.out]; exact HX4.out⟩
       case measure => simp [intOf]; omega
      ·have habI : ¬ (b : Int) ≤ (pl : Int) := by omega
       have habd : decide ((b : Int) ≤ (pl : Int)) = false := decide_eq_false habI
       go_upto_region 16 with fail
       go_quiet (first | (go_at_call 32; exact Calls.quiet_of_same (HOR _)))
       have HKd := Za (Yf HKr.out nq)
       have HXd : Hid ((wr.drewN nq).heap[ga]? = some (.cells ((Wa pl L ⟨(kq : Int), (b : Int)⟩).map Value.bool).toArray 4 (0, 0))) := by
        show _ = _
        rw [HSD.out, if_neg (fun hh => by have := hh.2; omega)]
        exact Zc (Yf (Kept.refl nF wr) nq) HXr.out id
       clear r0 r1 y0 y1 y2 y3 HKr HXr HSD HLN HJP HOR
       generalize wr.drewN nq = wn at *
       go_wp2
       go_roundw
       case rel => exact ⟨i + 1, by go_num, hlt, HKd, by rw [HS1.out]; exact HXd.out⟩
       case measure => simp [intOf]; omega
     ·have hk3 : ((kk : Int) == 3) = false := by simp; omega
      go_upto_region 16 with fail
      go_quiet (first | (go_at_call 32; exact Calls.quiet_of_same (HOR _)))
      have HKd := Za (Yf HKr.out nq)
      have HXd : Hid ((wr.drewN nq).heap[ga]? = some (.cells ((Wa pl L ⟨(kq : Int), a⟩).map Value.bool).toArray 4 (0, 0))) := by
       show _ = _
       rw [HSD.out, if_neg (fun hh => hkk hh.1)]
       exact Zc (Yf (Kept.refl nF wr) nq) HXr.out id
      clear r0 r1 y0 y1 y2 y3 HKr HXr HSD HLN HJP HOR
      generalize wr.drewN nq = wn at *
      go_wp2
      go_roundw
      case rel => exact ⟨i + 1, by go_num, hlt, HKd, by rw [HS1.out]; exact HXd.out⟩
      case measure => simp [intOf]; omega
    ·have hip : i = pl := by have := HI.out; omega
     subst hip
     have hnlt : ¬ (i : Int) < (i : Int) := by omega
     have HXF : Hid (wr.heap[ga]? = some (.cells ((Yu ys).map Value.bool).toArray 4 (0, 0))) := by
      have h := HXr.out
      have := HPL.out
      rw [List.take_of_length_le (by omega), ← HAD.out] at h
      exact h
     have HB8 : Hid (Bm w wr wr g6 m6 c6 (ZS ++ Wf (Yu ys) (i : Int) (nf : Int) ys 0)) := by
      show Bm w wr wr g6 m6 c6 _
      rw [show Wf (Yu ys) (i : Int) (nf : Int) ys 0 = [] from rfl, List.append_nil]
      exact HB7.out.here HKr.out
     have HT8 := Za (HT6.out.trans (Zab HKr.out))
     have HY8 := Za (Zc HKr.out HY6.out id)
     have HX8 := Za (Oth5.box HT8.out HX2.out (by decide))
     clear HB7 HT6 HY6 HKr HXr HST HAD hlt HI
     go_wp2_with fail
     clear y0 y1 y2 y3 hnlt
     generalize i = pl at *
     generalize wr = w8 at *
     go_loopw [5, 10] (fun ov iv wr => ∃ (i g m c : Nat), iv = .int .i64 (i : Int) ∧ ov = .slice (some ⟨g, 0, none⟩) m c ∧ Hid (i ≤ pl + 1) ∧ Hid (Bm w w8 wr g m c (ZS ++ Wf (Yu ys) (pl : Int) (nf : Int) ys i))) (fun _ iv _ => pl + 1 - (intOf iv).toNat)
     case atStart => exact ⟨0, _, _, _, rfl, rfl, Nat.zero_le _, HB8⟩
     case round =>
      clear HB8
      obtain ⟨i, g, m, c, rfl, rfl, HI, HBi⟩ := hrel
      obtain ⟨y0, y1, y2, y3, _⟩ := Yk (Oth5.box HBi.out.oth HY8.out (by decide))
      have hPB : (pl : Int) ≤ 4096 := HPB.out
      by_cases hle : i ≤ pl
      ·have hleI : (i : Int) ≤ (pl : Int) := by omega
       have hiB : (i : Int) ≤ 4096 := by omega
       have HM : Hid (m ≤ 210000000) := by
        have h1 := HBi.out.len
        have h2 := HZ.out
        have h3 := (HBL i (by omega)).out
        have h4 := HB8L.out
        rw [List.length_append] at h1
        unfold Hid
        omega
       have HSU : Hid (Wf (Yu ys) (pl : Int) (nf : Int) ys (i + 1) = Wf (Yu ys) (pl : Int) (nf : Int) ys i ++ (Wm ((Yu ys).getD i false) i ++ Zb6 (pl : Int) (nf : Int) ys i)) := Zd4 _ _ _ _ _
       have hq0 := Zft (Oth5.box HBi.out.oth HXF.out (by decide)) (k := i) (by rw [Zfs]; have := HPL.out; omega)
       have HI1 : Hid (i + 1 ≤ pl + 1) := by show i + 1 ≤ pl + 1; omega
       generalize (Yu ys).getD i false = bq at *
       go_upto_if 118 with fail
       clear hq0 y0 y1 y2 y3
       go_cut [5] from 118 to 124 (fun v5 wx => ∃ (g m c : Nat), v5 = .slice (some ⟨g, 0, none⟩) m c ∧ Bm w w8 wx g m c (ZS ++ Wf (Yu ys) (pl : Int) (nf : Int) ys i ++ Wm bq i) ∧ m ≤ 210000100)
       case first =>
        cases bq
        ·have HBF : Hid (Bm w w8 wr g m c (ZS ++ Wf (Yu ys) (pl : Int) (nf : Int) ys i ++ Wm false i)) := by
          show Bm w w8 wr g m c _
          rw [show Wm false i = [] from rfl, List.append_nil]
          exact HBi.out
         go_wp2_with fail
         go_meet
         exact ⟨_, _, _, rfl, HBF.out, by have := HM.out; omega⟩
        ·have HLB := Za (Zlp i)
         have D0 := fun W => Za9 (i : Int) (by omega) (by omega) W
         have z0 := Zb0 (i : Int) (by omega) (by omega)
         rw [show ∀ i : Int, (⟨(Lib.itoa i).toArray⟩ : ByteArray) = Wb i from fun _ => rfl] at D0
         generalize Wb (i : Int) = d0 at *
         go_wp2_with fail
         refine (D0 _).mono ?_
         rintro e wq ⟨rfl, hkq⟩
         have hbq := HBi.out.same hkq
         have q1 : ¬ (9223372036854775807 : Nat) < 1 + d0.size := by omega
         have q2 : ¬ (9223372036854775807 : Nat) < 1 + d0.size + 2 := by omega
         have hzs : ((⟨#[76]⟩ : ByteArray) ++ d0 ++ ⟨#[58, 10]⟩).size ≤ 30 := by
          have e1 : (⟨#[76]⟩ : ByteArray).size = 1 := rfl
          have e2 : (⟨#[58, 10]⟩ : ByteArray).size = 2 := rfl
          simp only [ByteArray.size_append, e1, e2]
          omega
         obtain ⟨g7, m7, c7, w7', hr7, hb7⟩ := hbq.pushS ((⟨#[76]⟩ : ByteArray) ++ d0 ++ ⟨#[58, 10]⟩) (by have := HM.out; omega)
         have HM7 : Hid (m7 ≤ 210000100) := by
          have h1 := hbq.step hb7
          rw [Lib.strCells_length] at h1
          have := HM.out
          show m7 ≤ 210000100
          omega
         have HR7 := Za hr7
         rw [HLB.out] at hb7
         have HB7 := Za hb7
         clear hr7 hb7 hbq hkq D0 z0 hzs HLB
         go_wp2_with (at_builtin; refine Zr rfl (.tmp 119) (.tmp 123) 23 9 rfl _ _ rfl rfl _ w7' HR7.out ?_)
         go_meet
         exact ⟨_, _, _, rfl, HB7.out, HM7.out⟩
       case rest =>
        obtain ⟨g7, m7, c7, rfl, hb7, hm7⟩ := hcut
        have HBc := Za hb7
        have HMb := Za hm7
        obtain ⟨y0, y1, y2, y3, _⟩ := Yk (Oth5.box hb7.oth HY8.out (by decide))
        clear hb7 hm7 HBi HM
        by_cases hlt : i < pl
        ·have hil : i < ys.length := by have := HPL.out; omega
         have hltI : (i : Int) < (pl : Int) := by omega
         obtain ⟨gc, oc, rfl, r0, r1⟩ := HCL.out i hil w (Kept.refl _ _)
         have hmem := List.getElem_mem hil
         have her := HER.out _ hmem
         have hyo := HYO.out _ hmem
         have HIA : Hid (Zb6 (pl : Int) (nf : Int) ys i = Zdt (ys[i]'hil).op (ys[i]'hil).a (pl : Int) (nf : Int)) := by
          show _ = _
          unfold Zb6
          rw [List.getElem?_eq_getElem hil]
         generalize hx : ys[i]'hil = x at *
         obtain ⟨op, ya⟩ := x
         obtain ⟨kq, hop, hk46⟩ := Zpr her
         simp only at hop r0 r1 HIA hyo
         have HR0 := Za r0
         have HR1 := Za r1
         have c0 := HBc.out.kept.cell r0 id
         have c1 := HBc.out.kept.cell r1 id
         have HIC := Za (Zlq op ya (pl : Int) (nf : Int))
         have HOPR := fun W => Zu2 mem fa fl fr op ya (.slice dao nd dc) (some ⟨gf, o, none⟩) (some ⟨gc, oc, none⟩) nf fc pl cc ⟨by omega, by omega⟩ hyo.2.1 hyo.2.2 W
         have z1 := Zfq op
         have z2 := Zsc op ya (pl : Int) (nf : Int) hyo.2.1 hyo.2.2
         have HOF1 := Za (Zn8 op wc hyo.1.1 hyo.1.2)
         generalize opS (Yd Zj op) ya (pl : Int) (nf : Int) = os at *
         generalize Xb Zj op = iq at *
         clear her hyo hmem hx hil hop hk46 r0 r1
         generalize Yd Zj op = sh at *
         obtain ⟨nm, oo, tt, gg⟩ := sh
         have HOF : Hid (Calls Tryz.prog 33 #[.int .i64 op] wc fun e w' => e = .returned (.tuple #[.agg #[.string nm, .int .i64 oo, .int .i64 tt, .int .i64 gg], .bool iq]) ∧ Kept nF wc w') := HOF1.out
         simp only at HIC z1
         clear HOF1
         go_wp2_with fail
         refine HOF.out.mono ?_
         rintro e wf ⟨rfl, hkf⟩
         have hka : Kept nF wf (wf.alloc (.cells #[.string nm, .int .i64 oo, .int .i64 tt, .int .i64 gg] 89)) := (Kept.refl _ _).alloc _
         have HSb := Za (heap_alloc_new wf (.cells #[.string nm, .int .i64 oo, .int .i64 tt, .int .i64 gg] 89))
         have HBb := Za (HBc.out.here (hkf.trans hka))
         have HTb := Za (HBc.out.oth.trans (Zab (hkf.trans hka)))
         have HYb := Za (Oth5.box HTb.out HY8.out (by decide))
         have HXb := Za (Oth5.box HTb.out HX8.out (by decide))
         clear hkf hka HOF y0 y1 y2 y3 c0 c1 HBc
         go_upto_region 25 with fail
         generalize wf.alloc (.cells #[.string nm, .int .i64 oo, .int .i64 tt, .int .i64 gg] 89) = wb at *
         generalize wf.heap.size = gs at *
         have q1 : ¬ (9223372036854775807 : Nat) < 1 + nm.size := by omega
         have q2 : ¬ (9223372036854775807 : Nat) < 1 + nm.size + os.size := by omega
         have q3 : ¬ (9223372036854775807 : Nat) < 1 + nm.size + os.size + 1 := by omega
         have HZS : Hid (((⟨#[9]⟩ : ByteArray) ++ nm ++ os ++ ⟨#[10]⟩).size ≤ 300) := by
          have e1 : (⟨#[9]⟩ : ByteArray).size = 1 := rfl
          have e2 : (⟨#[10]⟩ : ByteArray).size = 1 := rfl
          show _ ≤ _
          simp only [ByteArray.size_append, e1, e2]
          omega
         clear z1 z2
         have HSM : Hid (∀ w', Lib.OthersKept 5 none wb w' ∧ Kept nF w w' → w'.cell? ⟨gs, 0, none⟩ = some (.string nm) ∧ (w'.cell? ⟨gx, 0, none⟩ = some (.int .i64 mem) ∧ w'.cell? ⟨gx, 1, none⟩ = some (.slice dao nd dc) ∧ w'.cell? ⟨gx, 2, none⟩ = some (.slice (some ⟨gf, o, none⟩) nf fc)) ∧ (w'.cell? ⟨gy, 0, none⟩ = some (.int .i64 fa) ∧ w'.cell? ⟨gy, 1, none⟩ = some (.int .i64 fl) ∧ w'.cell? ⟨gy, 2, none⟩ = some (.int .i64 fr) ∧ w'.cell? ⟨gy, 3, none⟩ = some (.slice (some ⟨gc, oc, none⟩) pl cc)) ∧ w'.cell? ⟨gc, oc + i * 2, none⟩ = some (.int .i64 op) ∧ w'.cell? ⟨gc, oc + i * 2 + 1, none⟩ = some (.int .i64 ya)) := fun w' hw => by
          obtain ⟨q0, q1, q2, q3, _⟩ := Yk (Oth5.box hw.1 HYb.out (by decide))
          obtain ⟨p0, p1, p2, _⟩ := Zx (Oth5.box hw.1 HXb.out (by decide))
          exact ⟨Zb _ _ 0 _ _ _ (Oth5.box hw.1 HSb.out (by decide)), ⟨p0, p1, p2⟩, ⟨q0, q1, q2, q3⟩, hw.2.cell HR0.out id, hw.2.cell HR1.out id⟩
         have hKwd : Kept nF wb wb.drew := (Kept.refl _ _).drew
         have hbd := HBb.out.same hKwd
         refine wp_region_held_drew (S := fun w' => Lib.OthersKept 5 none wb w' ∧ Kept nF w w') (by kernel_rfl) ⟨hbd.oth, hbd.kept⟩ (fun qh => ?_)
         generalize wb.drew = wd2 at *
         clear hKwd
         iterate 11
          refine tkn (v := ?_) 0 rfl ?_ ?_; rotate_left
          ·intro w' hSw; have s0 := HSM.out w' hSw; obtain ⟨s0, ⟨x0, x1, x2⟩, ⟨y0, y1, y2, y3⟩, r0, r1⟩ := s0; go_simp; try with_reducible rfl
          try simp only [Act.put, tdy]
         refine rdy 11 rfl (fun K hK => ?_)
         go_simp
         refine (HOPR wd2).mono ?_
         rintro e wq ⟨rfl, hkq⟩
         have hbq := hbd.same hkq
         refine hK.out _ _ ⟨hbq.oth, hbq.kept⟩ (fun qh => ?_)
         clear hK K hkq hbd
         try simp only [Act.put, tdy]
         iterate 2
          refine tkn (v := ?_) 0 rfl ?_ ?_; rotate_left
          ·intro w' hSw; go_simp; try with_reducible rfl
          try simp only [Act.put, tdy]
         obtain ⟨g9, m9, c9, w9, hr9, hb9⟩ := hbq.pushS ((⟨#[9]⟩ : ByteArray) ++ nm ++ os ++ ⟨#[10]⟩) (by have := HZS.out; have := HMb.out; omega)
         have HR9 := Za hr9
         have HB9 : Hid (Bm w w8 w9 g9 m9 c9 (ZS ++ Wf (Yu ys) (pl : Int) (nf : Int) ys (i + 1))) := by
          show Bm w w8 w9 g9 m9 c9 _
          have h := hb9.rebase HTb.out
          rw [HIC.out] at h
          rw [HSU.out, HIA.out]
          simpa only [List.append_assoc] using h
         have HO9 := Za (show Lib.OthersKept 5 none wb w9 ∧ Kept nF w w9 from ⟨hb9.oth, hb9.kept⟩)
         clear hr9 hb9 hbq
         refine rdy 14 rfl (fun K hK => ?_)
         refine Zm rfl (.tmp 140) (.tmp 153) 23 9 rfl _ _ rfl rfl (.slice (some ⟨g9, 0, none⟩) m9 c9) w9 HR9.out ?_
         refine hK.out _ _ HO9.out (fun qh => ?_)
         clear hK K
         try simp only [Act.put, tdy]
         refine rdy 15 rfl (fun K hK => ?_)
         go_simp
         refine hK.out _ _ qh (fun qh => ?_)
         clear hK K
         try simp only [Act.put, tdy]
         refine wpAnyH_done (by kernel_rfl) ?_ _
         clear qh HSM HR9 HO9
         go_wp2
         go_roundw
         case rel => exact ⟨i + 1, _, _, _, by go_num, rfl, HI1, HB9⟩
         case measure => have := HI1.out; simp [intOf]; omega
        ·have hip : i = pl := by omega
         subst hip
         have hnlt : ¬ (i : Int) < (i : Int) := by omega
         have HB9 : Hid (Bm w w8 wc g7 m7 c7 (ZS ++ Wf (Yu ys) (i : Int) (nf : Int) ys (i + 1))) := by
          show Bm w w8 wc g7 m7 c7 _
          have e : Zb6 (i : Int) (nf : Int) ys i = [] := by unfold Zb6; rw [List.getElem?_eq_none (by have := HPL.out; omega)]
          rw [HSU.out, e, List.append_nil, ← List.append_assoc]
          exact HBc.out
         clear hlt
         go_wp2
         go_roundw
         case rel => exact ⟨i + 1, _, _, _, by go_num, rfl, HI1, HB9⟩
         case measure => simp [intOf]
      ·have hip : i = pl + 1 := by have := HI.out; omega
       subst hip
       have hnle : ¬ ((pl + 1 : Nat) : Int) ≤ (pl : Int) := by omega
       have HBF : Hid (Bm w w2 wr g m c (HED ++ Xq (nf : Int) fs (k + 1))) := by
        show Bm w w2 wr g m c _
        have h := HBi.out.rebase HT8.out
        rw [HZ.out] at h
        rw [HSU0.out, HFD.out]
        simpa only [List.append_assoc] using h
       clear hle HBi
       have hkB : (k : Int) < 64 := by have := HK1.out; have := HN6.out; omega
       go_wp2
       go_roundw
       case rel => exact ⟨k + 1, _, _, _, by go_num, rfl, HK1, HBF⟩
       case measure => have := HK1.out; simp [intOf]; omega
end Go.Proofs.YtgoabnehdmdikaaGreatDoor

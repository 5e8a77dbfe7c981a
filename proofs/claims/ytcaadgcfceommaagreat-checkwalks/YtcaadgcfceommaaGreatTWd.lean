/-
  TWd: Wd, We, Wf, Wg.
-/
import Derived.Test.YtcaadgcfceommaaGreatTWa
namespace Go.Proofs.YtcaadgcfceommaaGreat
open Go.RowKit
set_option linter.unusedVariables false
set_option linter.unusedSimpArgs false
set_option maxRecDepth 100000

theorem frs_last (gs : List FR) (bg : List Value) (c : FR) (cb y : Value) (hlen : bg.length = gs.length) : ((((frsC (gs ++ [c]) (bg ++ [cb])).set (gs.length * 4) (.int .i64 (c.fn : Int))).set (gs.length * 4 + 1) (.int .i64 (c.at' : Int))).set (gs.length * 4 + 2) y).set (gs.length * 4 + 3) cb = frsC gs bg ++ [.int .i64 (c.fn : Int), .int .i64 (c.at' : Int), y, cb] := by
  have e : frsC (gs ++ [c]) (bg ++ [cb]) = frsC gs bg ++ [.int .i64 (c.fn : Int), .int .i64 (c.at' : Int), .int .i64 c.high, cb] := by
    rw [frsC_app gs [c] bg [cb] hlen]
    rfl
  have hl := frsC_len gs bg hlen
  rw [e]
  rw [List.set_append_right _ _ (by omega), List.set_append_right _ _ (by omega), List.set_append_right _ _ (by omega), List.set_append_right _ _ (by omega)]
  rw [hl]
  simp
set_option maxHeartbeats 8000000 in
theorem walked_ret (v : Value) (p : PG) (w : World) (B : Nat) (h : PgIs w B v p) (hB : B ≤ w.heap.size) (ho : p.Ok) (lv : Value) (fs : List FR) (now : FR) (bv : List Value) (bn : Value) (B2 : Nat) (hl : Frs w B2 lv (fs ++ [now]) (bv ++ [bn])) (hlb : bv.length = fs.length) (hB2 : B2 ≤ w.heap.size) (hfl : fs.length ≤ 1000) (x : IN)
    (tk gv : Int) (hTk : takesD p (now.fn : Int) (now.at' : Int) = (tk, gv)) (htk : 0 ≤ tk ∧ tk ≤ 1000) (hgv : 0 ≤ gv ∧ gv ≤ 1000) (hh : 0 ≤ now.high ∧ now.high ≤ 256) (ways : List Int) (hNx : nextD p (now.fn : Int) (now.at' : Int) = ways) (pick : Int) (gs : List FR) (c : FR) (bg : List Value) (cb : Value) (hfs : fs = gs ++ [c]) (hbv : bv = bg ++ [cb]) (hlg : bg.length = gs.length) (hch : 0 ≤ c.high ∧ c.high ≤ 256) (h18 : x.op = 18) :
    Calls Tryz.prog 28 #[v, lv, .agg #[.int .i64 x.op, .int .i64 x.a], .int .i64 pick] w fun e w' => Kept (fun _ => False) w w' ∧ ∃ (v' : Value), e = .returned v' ∧ Frs w' B2 v' (gs ++ [⟨c.fn, c.at', c.high + tk, c.been⟩]) bv := by
  have H18 := hid_of h18
  have HFS := hid_of hfs
  have HBV := hid_of hbv
  clear h18 hfs hbv
  have HPG := hid_of h
  have HO := hid_of ho
  obtain ⟨dv, fv, rfl, hd, hdl, hf⟩ := h
  obtain ⟨dao, dc, rfl⟩ := hd.shape
  obtain ⟨fao, fc, rfl⟩ := hf.shape
  obtain ⟨g, cap, b0, e0, hb0, l0, l1, l2, l3, lb⟩ := hl.look (i := fs.length) (c := now) (by simp)
  have hbe : b0 = bn := by
    rw [← hlb] at hb0
    simp at hb0
    exact hb0.symm
  subst hbe
  subst e0
  have hone : b0.oneCell' = true := own_oneC lb
  have hcap : fs.length + 1 ≤ cap := by
    rcases hl.row.2 with ⟨e, _⟩ | ⟨g', cap', cur', e, _, _, hnc, _⟩
    · cases e
    · simp only [Value.slice.injEq] at e
      obtain ⟨_, _, rfl⟩ := e
      simpa using hnc
  obtain ⟨bo, bc, rfl⟩ := ownsRow_shape lb
  obtain ⟨bl, hbl⟩ : ∃ z, z = now.been.length := ⟨_, rfl⟩
  rw [← hbl] at l3 hone hl lb
  obtain ⟨nf, hnf⟩ : ∃ n, n = p.fns.length := ⟨_, rfl⟩
  obtain ⟨nd, hnd⟩ : ∃ n, n = p.data.length := ⟨_, rfl⟩
  obtain ⟨mem, hmem⟩ : ∃ n, n = p.mem := ⟨_, rfl⟩
  have HHN := hid_of hnf
  rw [← hnf, ← hnd, ← hmem] at HPG ⊢
  have HLB := hid_of hlb
  obtain ⟨W, hW⟩ : ∃ W, W = ((w.alloc (.cells #[.int .i64 mem, .slice dao nd dc, .slice fao nf fc] 25)).alloc (.cells #[.int .i64 x.op, .int .i64 x.a] 64)).alloc (.cells #[.int .i64 (now.fn : Int), .int .i64 (now.at' : Int), .int .i64 now.high, .slice bo bl bc] 58) := ⟨_, rfl⟩
  obtain ⟨hkW, hb1, hb2, hb3⟩ := allocs3 _ _ _ _ _ _ _ _ hW
  have hk2 : Kept (fun _ => False) w ((w.alloc (.cells #[.int .i64 mem, .slice dao nd dc, .slice fao nf fc] 25)).alloc (.cells #[.int .i64 x.op, .int .i64 x.a] 64)) := ((Kept.refl _ _).alloc _).alloc _
  have l0' := hk2.cell l0 (fun f => f)
  have l1' := hk2.cell l1 (fun f => f)
  have l2' := hk2.cell l2 (fun f => f)
  have l3' := hk2.cell l3 (fun f => f)
  have HL := hid_of (hl.same hkW)
  have HL0 := hid_of hl
  have HB1 := hid_of hb1
  have HB2 := hid_of hb2
  have HB3 := hid_of hb3
  have HKW := hid_of hkW
  have HBB := hid_of hB
  have HBL := hid_of hbl
  have HON := hid_of hone
  have HB22 := hid_of hB2
  have hCT := fun W' (hW' : Kept (fun _ => False) W W') => ctakes_any _ p W' B (HPG.out.kept (hkW.trans hW') (fun _ _ f => f)) (Nat.le_trans hB (hkW.trans hW').size) ho (now.fn : Int) (now.at' : Int)
  have hCN := fun W' (hW' : Kept (fun _ => False) W W') => cnext_any _ p W' B (HPG.out.kept (hkW.trans hW') (fun _ _ f => f)) (Nat.le_trans hB (hkW.trans hW').size) ho (now.fn : Int) (now.at' : Int)
  rw [hTk] at hCT
  rw [hNx] at hCN
  have HCT := hid_of hCT
  have HCN := hid_of hCN
  obtain ⟨k, hk⟩ : ∃ k, k = fs.length := ⟨_, rfl⟩
  have HLK := hid_of hk
  have hkl : (fs ++ [now]).length = k + 1 := by rw [hk]; simp
  rw [hkl] at HL HL0 ⊢
  rw [← hk] at l0' l1' l2' l3' hfl hcap
  have hcapI : (k : Int) ≤ (cap : Int) := by omega
  have hcapN : k ≤ cap := by omega
  obtain ⟨fn, hfn⟩ : ∃ z, z = now.fn := ⟨_, rfl⟩
  obtain ⟨at', hat⟩ : ∃ z, z = now.at' := ⟨_, rfl⟩
  obtain ⟨hi, hhi⟩ : ∃ z, z = now.high := ⟨_, rfl⟩
  rw [← hfn, ← hat] at HCT HCN
  rw [← hfn] at l0'
  rw [← hat] at l1'
  rw [← hhi] at l2' hh
  rw [← hfn, ← hat, ← hhi] at hW HB3
  have HFN := hid_of hfn
  have HAT := hid_of hat
  have HHI := hid_of hhi
  have kI : (k : Int) < ((k + 1 : Nat) : Int) := by omega
  clear hd hdl hf hl hlb hb0 l0 l1 l2 l3 lb hnf hnd hmem hkW hb1 hb2 hb3 hk2 hCT hCN hTk hNx hkl hk hB hB2 ho hone hbl hfn hat hhi HPG
  generalize x.op = xo at *
  generalize x.a = xa at *
  go_enter Tryz.func28, Tryz.ntmps28
  go_upto_region 3 with fail
  rw [← hW]
  clear hW l0' l1' l2' l3'
  generalize hgb : w.heap.size = gb at *
  have HGB := hid_of hgb
  obtain ⟨gn, hgn⟩ : ∃ z, z = gb + 1 + 1 := ⟨_, rfl⟩
  rw [← hgn]
  rw [show gb + 2 = gn by omega] at HB3
  have HGN := hid_of hgn
  clear hgb hgn
  obtain ⟨c0, c1, c2, _⟩ := look3 HB1.out
  obtain ⟨n0, n1, n2, n3, _⟩ := look4 HB3.out
  go_wp2_with fail
  refine (HCT.out _ (Kept.refl _ _)).mono ?_
  rintro e w2 ⟨rfl, hk2⟩
  clear HCT c0 c1 c2 n0 n1 n2 n3
  obtain ⟨c0, c1, c2, _⟩ := look3 (box_kept hk2 HB1.out (fun f => f))
  obtain ⟨n0, n1, n2, n3, _⟩ := look4 (box_kept hk2 HB3.out (fun f => f))
  have HK2 := hid_of hk2
  clear hk2
  go_wp2_with fail
  refine (HCN.out _ HK2.out).mono ?_
  rintro e w3 ⟨wv, rfl, hwv, hk3⟩
  obtain ⟨wa, wc, hws⟩ := ownsRow_shape hwv
  obtain ⟨nw, hnw⟩ : ∃ z, z = ways.length := ⟨_, rfl⟩
  rw [← hnw] at hws
  subst hws
  have HWV := hid_of hwv
  have HNW := hid_of hnw
  have HK3 := hid_of (HK2.out.trans hk3)
  have HS2 : Hid (gn < w2.heap.size) := by
    have h1 := HK2.out.size
    have h2 := (Array.getElem?_eq_some_iff.1 HB3.out).1
    show gn < w2.heap.size
    omega
  have HS23 : Hid (w2.heap.size ≤ w3.heap.size) := hk3.size
  clear HCN c0 c1 c2 n0 n1 n2 n3 hk3 HK2 hwv
  obtain ⟨v4, w4, hr, ho4, hk4⟩ := copy_frames (W := w3) (g := g) (cap := cap) (fs := fs) (now := now) (bv := bv) (bn := .slice bo bl bc) (by have h9 := HL.out.same HK3.out; rw [HLK.out] at h9; simpa using h9) HLB.out (by rw [← HLK.out]; omega)
  rw [← HLK.out] at hr ho4
  obtain ⟨va, vc, hvs⟩ := ownsRow_shape ho4
  subst hvs
  have HO4 := hid_of ho4
  have HR := hid_of hr
  have HK4 := hid_of (HK3.out.trans hk4)
  have HK34 := hid_of hk4
  have HWV4 := hid_of (hk4.ownsRow HWV.out (fun _ _ f => f))
  have HS3 : Hid (gn < w3.heap.size) := by
    have h1 := HK3.out.size
    have h2 := (Array.getElem?_eq_some_iff.1 HB3.out).1
    show gn < w3.heap.size
    omega
  clear ho4 hk4 HWV hr
  obtain ⟨q0, q1, _⟩ := look2 (box_kept HK4.out HB2.out (fun f => f))
  obtain ⟨n0, n1, n2, n3, _⟩ := look4 (box_kept HK4.out HB3.out (fun f => f))
  have h18 := H18.out
  clear H18
  subst h18
  go_upto_region 7 with (at_builtin; refine wp_app2 rfl (.tmp 34) (.tmp 37) 59 59 rfl _ _ rfl rfl _ w4 HR.out ?_)
  obtain ⟨kk, hkk⟩ : ∃ z, z = gs.length := ⟨_, rfl⟩
  have hk1 : k = kk + 1 := by rw [HLK.out, HFS.out, hkk]; simp
  have HKK := hid_of hkk
  clear hkk HR
  subst hk1
  have hck : fs[kk]? = some c := by rw [HFS.out, HKK.out]; simp
  have hcb : bv[kk]? = some cb := by rw [HBV.out, HKK.out, ← hlg]; simp
  obtain ⟨vg, vcap, evs⟩ := own_at9 HO4.out (by omega)
  simp only [Value.slice.injEq] at evs
  obtain ⟨rfl, hx9, rfl⟩ := evs
  clear hx9
  have hcell : ∀ j y, (frC c cb)[j]? = some y → w4.cell? ⟨vg, kk * 4 + j, none⟩ = some y := fun j y hy => by
    have h9 := HO4.out.cells rfl (kk * 4 + j) y (frsC_at fs bv kk c cb hck hcb j y hy)
    rwa [Addr.add_lit, Nat.zero_add] at h9
  have z0 : w4.cell? ⟨vg, kk * 4, none⟩ = some (.int .i64 (c.fn : Int)) := hcell 0 _ rfl
  have z1 := hcell 1 _ rfl
  have z2 := hcell 2 _ rfl
  have z3 := hcell 3 _ rfl
  have hkI : ((kk : Int)) < ((kk + 1 : Nat) : Int) := by omega
  have hcb1 : cb.oneCell' = true := by
    obtain ⟨f1, _⟩ := HL0.out.init HLB.out
    exact own_oneC (f1 kk c cb hck hcb)
  have hwA : IntKind.i64.wrap (c.high + tk) = c.high + tk := by simp [IntKind.wrap, IntKind.bits, IntKind.signed]; omega
  have HZ : Hid (w4.cell? ⟨vg, kk * 4, none⟩ = some (.int .i64 (c.fn : Int)) ∧ w4.cell? ⟨vg, kk * 4 + 1, none⟩ = some (.int .i64 (c.at' : Int)) ∧ w4.cell? ⟨vg, kk * 4 + 2, none⟩ = some (.int .i64 c.high) ∧ w4.cell? ⟨vg, kk * 4 + 3, none⟩ = some cb) := ⟨z0, z1, z2, z3⟩
  obtain ⟨cfn, hcfn⟩ : ∃ z, z = c.fn := ⟨_, rfl⟩
  obtain ⟨cat, hcat⟩ : ∃ z, z = c.at' := ⟨_, rfl⟩
  obtain ⟨chi, hchi⟩ : ∃ z, z = c.high := ⟨_, rfl⟩
  have HC3 : Hid (cfn = c.fn ∧ cat = c.at' ∧ chi = c.high) := ⟨hcfn, hcat, hchi⟩
  obtain ⟨cba, cbn, cbc, ecb⟩ : ∃ a n c', cb = .slice a n c' := by
    obtain ⟨f1, _⟩ := HL0.out.init HLB.out
    obtain ⟨a, c', e⟩ := ownsRow_shape (f1 kk c cb hck hcb)
    exact ⟨a, _, c', e⟩
  rw [← hcfn, ← hcat, ← hchi] at HZ
  rw [ecb] at HZ
  have HEC := hid_of ecb
  rw [← hcfn] at z0
  have z1' : w4.cell? ⟨vg, kk * 4 + 1, none⟩ = some (.int .i64 (cat : Int)) := HZ.out.2.1
  have z2' : w4.cell? ⟨vg, kk * 4 + 2, none⟩ = some (.int .i64 chi) := HZ.out.2.2.1
  have z3' : w4.cell? ⟨vg, kk * 4 + 3, none⟩ = some (.slice cba cbn cbc) := HZ.out.2.2.2
  rw [← hchi] at hwA
  clear z1 z2 z3 hcell hcfn hcat hchi ecb hck hcb hcb1
  go_upto_region 11 with fail
  have hk5 : Kept (fun _ => False) w4 (w4.alloc (.cells #[.int .i64 (cfn : Int), .int .i64 (cat : Int), .int .i64 (chi + tk), .slice cba cbn cbc] 58)) := (Kept.refl _ _).alloc _
  have hb5 := heap_alloc_new w4 (.cells #[.int .i64 (cfn : Int), .int .i64 (cat : Int), .int .i64 (chi + tk), .slice cba cbn cbc] 58)
  have ho5 := hk5.ownsRow HO4.out (fun _ _ f => f)
  generalize w4.alloc (.cells #[.int .i64 (cfn : Int), .int .i64 (cat : Int), .int .i64 (chi + tk), .slice cba cbn cbc] 58) = w5 at *
  generalize w4.heap.size = g5 at *
  obtain ⟨y0, y1, y2, y3, _⟩ := look4 hb5
  have t0 := hk5.cell z0 (fun f => f)
  have t1 := hk5.cell z1' (fun f => f)
  have t2 := hk5.cell z2' (fun f => f)
  have t3 := hk5.cell z3' (fun f => f)
  have r0 := World.ownsRow.frozenAt ho5 (kk * 4)
  have r1 := World.ownsRow.frozenAt ho5 (kk * 4 + 1)
  have r2 := World.ownsRow.frozenAt ho5 (kk * 4 + 2)
  have r3 := World.ownsRow.frozenAt ho5 (kk * 4 + 3)
  have s0 := (World.ownsRow.stored ho5 (kk * 4) (.int .i64 (cfn : Int))).1
  have s1 := (World.ownsRow.stored s0 (kk * 4 + 1) (.int .i64 (cat : Int))).1
  have s2 := (World.ownsRow.stored s1 (kk * 4 + 2) (.int .i64 (chi + tk))).1
  have s3 := (World.ownsRow.stored s2 (kk * 4 + 3) (.slice cba cbn cbc)).1
  have k6 := (((kept_set w5 vg (kk * 4) (.int .i64 (cfn : Int))).trans (kept_set _ vg (kk * 4 + 1) (.int .i64 (cat : Int)))).trans (kept_set _ vg (kk * 4 + 2) (.int .i64 (chi + tk)))).trans (kept_set _ vg (kk * 4 + 3) (.slice cba cbn cbc))
  have HS := hid_of s3
  have HK6 := hid_of k6
  have HK5 := hid_of hk5
  clear s0 s1 s2 s3 k6 hk5 hb5 z0 z1' z2' z3' HZ n0 n1 n2 n3 q0 q1 ho5
  go_upto_region 12 with fail
  generalize hw6 : (((w5.setCell ⟨vg, kk * 4, none⟩ (.int .i64 (cfn : Int))).setCell ⟨vg, kk * 4 + 1, none⟩ (.int .i64 (cat : Int))).setCell ⟨vg, kk * 4 + 2, none⟩ (.int .i64 (chi + tk))).setCell ⟨vg, kk * 4 + 3, none⟩ (.slice cba cbn cbc) = w6 at *
  have hkt : Kept (fun _ => False) w w6 := (HKW.out.trans (HK4.out.trans HK5.out)).step HK6.out (fun i hi e => by
    subst e
    have h1 := (HO4.out.lt i rfl).1
    have h2 := HS2.out
    have h3 := HS23.out
    have h4 := HGB.out
    have h5 := HGN.out
    omega)
  have HEND : Hid (Frs w6 B2 (.slice (some ⟨vg, 0, none⟩) (kk + 1) vc) (gs ++ [⟨c.fn, c.at', c.high + tk, c.been⟩]) bv) := by
    obtain ⟨f1, f2, f3, _⟩ := (HL0.out.same hkt).init HLB.out
    have hb2 : B2 ≤ w3.heap.size := by
      have h1 := HB22.out
      have h2 := HGB.out
      have h3 := HGN.out
      have h4 := HS2.out
      have h5 := HS23.out
      omega
    have h9 := own_mono HS.out hb2
    obtain ⟨e1, e2, e3⟩ := HC3.out
    have e4 := HFS.out
    have e5 := HBV.out
    rw [e4, e5, e1, e2, e3, ← HEC.out, HKK.out, frs_last gs bg c cb _ hlg] at h9
    subst e4
    subst e5
    have hlast : (gs ++ [c])[gs.length]? = some c := by simp
    have hlastb : (bg ++ [cb])[gs.length]? = some cb := by rw [← hlg]; simp
    have hp := List.pairwise_append.1 f3
    show Frs w6 B2 _ (gs ++ [⟨c.fn, c.at', c.high + tk, c.been⟩]) (bg ++ [cb])
    refine Frs.more hlg (fun i d e hd he => f1 i d e (by rw [List.getElem?_append_left (List.getElem?_eq_some_iff.1 hd).1]; exact hd) (by rw [List.getElem?_append_left (List.getElem?_eq_some_iff.1 he).1]; exact he)) (fun b hb => f2 b (by simp [hb])) hp.1 ?_ (f1 _ c cb hlast hlastb) (f2 cb (by simp)) (fun b' hb' => hp.2.2 b' hb' cb (by simp))
    rw [HKK.out]
    exact h9
  have HKT := hid_of hkt
  clear hkt hw6
  go_wp2
  go_ret
  exact ⟨HKT.out, _, rfl, HEND.out⟩
end Go.Proofs.YtcaadgcfceommaaGreat

namespace Go.Proofs.YtcaadgcfceommaaGreat
open Go.RowKit
set_option linter.unusedVariables false
set_option linter.unusedSimpArgs false
set_option maxRecDepth 100000

theorem been_last {w : World} {B : Nat} {fs : List FR} {bv : List Value} {c : FR} {b : Value} (hlen : bv.length = fs.length) (hbeen : ∀ (i : Nat) (c : FR) (b : Value), fs[i]? = some c → bv[i]? = some b → OwnL w B b c.been.length c.been) (hb : OwnL w B b c.been.length c.been) : ∀ (i : Nat) (d : FR) (e : Value), (fs ++ [c])[i]? = some d → (bv ++ [b])[i]? = some e → OwnL w B e d.been.length d.been := fun i d e hd he => by
  by_cases hi : i < fs.length
  · rw [List.getElem?_append_left hi] at hd
    rw [List.getElem?_append_left (by omega)] at he
    exact hbeen i d e hd he
  · rw [List.getElem?_append_right (by omega)] at hd he
    have hz : i - fs.length = 0 := by
      have := (List.getElem?_eq_some_iff.1 hd).1
      simp at this
      omega
    rw [hlen] at he
    rw [hz] at hd he
    simp only [List.getElem?_cons_zero, Option.some.injEq] at hd he
    subst hd; subst he
    exact hb
theorem Frs.low {w : World} {B : Nat} {v : Value} {fs : List FR} {bv : List Value} (h : Frs w B v fs bv) : ∀ b ∈ bv, ∀ g, b.ownBlock = some g → g < w.heap.size := fun b hb g hg => by
  obtain ⟨i, hi, e⟩ := List.mem_iff_getElem.1 hb
  have hif : i < fs.length := by rw [← h.len]; exact hi
  exact ((h.been i fs[i] b (List.getElem?_eq_getElem hif) (by rw [List.getElem?_eq_getElem hi, e])).lt g hg).2
set_option maxHeartbeats 8000000 in
theorem walked_call (v : Value) (p : PG) (w : World) (B : Nat) (h : PgIs w B v p) (hB : B ≤ w.heap.size) (ho : p.Ok) (lv : Value) (fs : List FR) (now : FR) (bv : List Value) (bn : Value) (B2 : Nat) (hl : Frs w B2 lv (fs ++ [now]) (bv ++ [bn])) (hlb : bv.length = fs.length) (hB2 : B2 ≤ w.heap.size) (hfl : fs.length ≤ 1000) (x : IN)
    (tk gv : Int) (hTk : takesD p (now.fn : Int) (now.at' : Int) = (tk, gv)) (htk : 0 ≤ tk ∧ tk ≤ 1000) (hgv : 0 ≤ gv ∧ gv ≤ 1000) (hh : 0 ≤ now.high ∧ now.high ≤ 256) (ways : List Int) (hNx : nextD p (now.fn : Int) (now.at' : Int) = ways) (pick : Int) (hw0 : 0 < ways.length) (hwl : ways.length ≤ 2) (hwr : ∀ m ∈ ways, 0 ≤ m) (fa : FN) (hfa : p.fns[x.a.toNat]? = some fa) (hxa : 0 ≤ x.a) (hfl2 : fa.code.length ≤ 4096) (hfl1 : 1 ≤ fa.code.length) (h17 : x.op = 17) :
    Calls Tryz.prog 28 #[v, lv, .agg #[.int .i64 x.op, .int .i64 x.a], .int .i64 pick] w fun e w' => Kept (fun _ => False) w w' ∧ ∃ (v' : Value) (m : Nat) (nb : Value), (m : Int) ∈ ways ∧ e = .returned v' ∧ Frs w' B2 v' ((fs ++ [⟨now.fn, m, now.high - tk, now.been⟩]) ++ [⟨x.a.toNat, 0, 0, List.replicate fa.code.length false⟩]) ((bv ++ [bn]) ++ [nb]) := by
  have HPG0 := hid_of h
  have H17 := hid_of h17
  have HFA := hid_of hfa
  obtain ⟨an, han⟩ : ∃ z : Nat, x.a = (z : Int) := ⟨x.a.toNat, by omega⟩
  have HAN := hid_of han
  clear h17 hfa han
  have HPG := hid_of h
  have HO := hid_of ho
  obtain ⟨dv, fv, rfl, hd, hdl, hf⟩ := h
  obtain ⟨dao, dc, rfl⟩ := hd.shape
  obtain ⟨fao, fc, rfl⟩ := hf.shape
  obtain ⟨g, cap, b0, e0, hb0, l0, l1, l2, l3, lb⟩ := hl.look (i := fs.length) (c := now) (by simp)
  have hbe : b0 = bn := by
    rw [← hlb] at hb0
    simp at hb0
    exact hb0.symm
  subst hbe
  subst e0
  have hone : b0.oneCell' = true := own_oneC lb
  have hcap : fs.length + 1 ≤ cap := by
    rcases hl.row.2 with ⟨e, _⟩ | ⟨g', cap', cur', e, _, _, hnc, _⟩
    · cases e
    · simp only [Value.slice.injEq] at e
      obtain ⟨_, _, rfl⟩ := e
      simpa using hnc
  obtain ⟨bo, bc, rfl⟩ := ownsRow_shape lb
  obtain ⟨bl, hbl⟩ : ∃ z, z = now.been.length := ⟨_, rfl⟩
  rw [← hbl] at l3 hone hl lb
  obtain ⟨nf, hnf⟩ : ∃ n, n = p.fns.length := ⟨_, rfl⟩
  obtain ⟨nd, hnd⟩ : ∃ n, n = p.data.length := ⟨_, rfl⟩
  obtain ⟨mem, hmem⟩ : ∃ n, n = p.mem := ⟨_, rfl⟩
  have HHN := hid_of hnf
  rw [← hnf, ← hnd, ← hmem] at HPG ⊢
  have HLB := hid_of hlb
  obtain ⟨W, hW⟩ : ∃ W, W = ((w.alloc (.cells #[.int .i64 mem, .slice dao nd dc, .slice fao nf fc] 25)).alloc (.cells #[.int .i64 x.op, .int .i64 x.a] 64)).alloc (.cells #[.int .i64 (now.fn : Int), .int .i64 (now.at' : Int), .int .i64 now.high, .slice bo bl bc] 58) := ⟨_, rfl⟩
  obtain ⟨hkW, hb1, hb2, hb3⟩ := allocs3 _ _ _ _ _ _ _ _ hW
  have hk2 : Kept (fun _ => False) w ((w.alloc (.cells #[.int .i64 mem, .slice dao nd dc, .slice fao nf fc] 25)).alloc (.cells #[.int .i64 x.op, .int .i64 x.a] 64)) := ((Kept.refl _ _).alloc _).alloc _
  have l0' := hk2.cell l0 (fun f => f)
  have l1' := hk2.cell l1 (fun f => f)
  have l2' := hk2.cell l2 (fun f => f)
  have l3' := hk2.cell l3 (fun f => f)
  have HL := hid_of (hl.same hkW)
  have HL0 := hid_of hl
  have HB1 := hid_of hb1
  have HB2 := hid_of hb2
  have HB3 := hid_of hb3
  have HKW := hid_of hkW
  have HBB := hid_of hB
  have HBL := hid_of hbl
  have HON := hid_of hone
  have HB22 := hid_of hB2
  have hCT := fun W' (hW' : Kept (fun _ => False) W W') => ctakes_any _ p W' B (HPG.out.kept (hkW.trans hW') (fun _ _ f => f)) (Nat.le_trans hB (hkW.trans hW').size) ho (now.fn : Int) (now.at' : Int)
  have hCN := fun W' (hW' : Kept (fun _ => False) W W') => cnext_any _ p W' B (HPG.out.kept (hkW.trans hW') (fun _ _ f => f)) (Nat.le_trans hB (hkW.trans hW').size) ho (now.fn : Int) (now.at' : Int)
  rw [hTk] at hCT
  rw [hNx] at hCN
  have HCT := hid_of hCT
  have HCN := hid_of hCN
  obtain ⟨k, hk⟩ : ∃ k, k = fs.length := ⟨_, rfl⟩
  have HLK := hid_of hk
  have hkl : (fs ++ [now]).length = k + 1 := by rw [hk]; simp
  rw [hkl] at HL HL0 ⊢
  rw [← hk] at l0' l1' l2' l3' hfl hcap
  have hcapI : (k : Int) ≤ (cap : Int) := by omega
  have hcapN : k ≤ cap := by omega
  obtain ⟨fn, hfn⟩ : ∃ z, z = now.fn := ⟨_, rfl⟩
  obtain ⟨at', hat⟩ : ∃ z, z = now.at' := ⟨_, rfl⟩
  obtain ⟨hi, hhi⟩ : ∃ z, z = now.high := ⟨_, rfl⟩
  rw [← hfn, ← hat] at HCT HCN
  rw [← hfn] at l0'
  rw [← hat] at l1'
  rw [← hhi] at l2' hh
  rw [← hfn, ← hat, ← hhi] at hW HB3
  have HFN := hid_of hfn
  have HAT := hid_of hat
  have HHI := hid_of hhi
  have kI : (k : Int) < ((k + 1 : Nat) : Int) := by omega
  clear hd hdl hf hl hlb hb0 l0 l1 l2 l3 lb hnf hnd hmem hkW hb1 hb2 hb3 hk2 hCT hCN hTk hNx hkl hk hB hB2 ho hone hbl hfn hat hhi HPG
  generalize x.op = xo at *
  generalize x.a = xa at *
  go_enter Tryz.func28, Tryz.ntmps28
  go_upto_region 3 with fail
  rw [← hW]
  clear hW l0' l1' l2' l3'
  generalize hgb : w.heap.size = gb at *
  have HGB := hid_of hgb
  obtain ⟨gn, hgn⟩ : ∃ z, z = gb + 1 + 1 := ⟨_, rfl⟩
  rw [← hgn]
  rw [show gb + 2 = gn by omega] at HB3
  have HGN := hid_of hgn
  clear hgb hgn
  obtain ⟨c0, c1, c2, _⟩ := look3 HB1.out
  obtain ⟨n0, n1, n2, n3, _⟩ := look4 HB3.out
  go_wp2_with fail
  refine (HCT.out _ (Kept.refl _ _)).mono ?_
  rintro e w2 ⟨rfl, hk2⟩
  clear HCT c0 c1 c2 n0 n1 n2 n3
  obtain ⟨c0, c1, c2, _⟩ := look3 (box_kept hk2 HB1.out (fun f => f))
  obtain ⟨n0, n1, n2, n3, _⟩ := look4 (box_kept hk2 HB3.out (fun f => f))
  have HK2 := hid_of hk2
  clear hk2
  go_wp2_with fail
  refine (HCN.out _ HK2.out).mono ?_
  rintro e w3 ⟨wv, rfl, hwv, hk3⟩
  obtain ⟨wa, wc, hws⟩ := ownsRow_shape hwv
  obtain ⟨nw, hnw⟩ : ∃ z, z = ways.length := ⟨_, rfl⟩
  rw [← hnw] at hws
  subst hws
  have HWV := hid_of hwv
  have HNW := hid_of hnw
  have HK3 := hid_of (HK2.out.trans hk3)
  have HS2 : Hid (gn < w2.heap.size) := by
    have h1 := HK2.out.size
    have h2 := (Array.getElem?_eq_some_iff.1 HB3.out).1
    show gn < w2.heap.size
    omega
  have HS23 : Hid (w2.heap.size ≤ w3.heap.size) := hk3.size
  clear HCN c0 c1 c2 n0 n1 n2 n3 hk3 HK2 hwv
  obtain ⟨v4, w4, hr, ho4, hk4⟩ := copy_frames (W := w3) (g := g) (cap := cap) (fs := fs) (now := now) (bv := bv) (bn := .slice bo bl bc) (by have h9 := HL.out.same HK3.out; rw [HLK.out] at h9; simpa using h9) HLB.out (by rw [← HLK.out]; omega)
  rw [← HLK.out] at hr ho4
  obtain ⟨va, vc, hvs⟩ := ownsRow_shape ho4
  subst hvs
  have HO4 := hid_of ho4
  have HR := hid_of hr
  have HK4 := hid_of (HK3.out.trans hk4)
  have HK34 := hid_of hk4
  have HWV4 := hid_of (hk4.ownsRow HWV.out (fun _ _ f => f))
  have HS3 : Hid (gn < w3.heap.size) := by
    have h1 := HK3.out.size
    have h2 := (Array.getElem?_eq_some_iff.1 HB3.out).1
    show gn < w3.heap.size
    omega
  clear ho4 hk4 HWV hr
  obtain ⟨q0, q1, _⟩ := look2 (box_kept HK4.out HB2.out (fun f => f))
  obtain ⟨n0, n1, n2, n3, _⟩ := look4 (box_kept HK4.out HB3.out (fun f => f))
  have h17 := H17.out
  clear H17
  subst h17
  have han := HAN.out
  subst han
  clear HAN
  have hnz : ¬ ((nw : Int) = 0) := by omega
  have hnwz : ((nw : Int) == 0) = false := by simpa using hnz
  have nf2 := frozen_block _ gn 2 _ _ (box_kept HK4.out HB3.out (fun f => f))
  rw [HNW.out] at hnz hnwz
  have hB4 := box_kept HK4.out HB3.out (fun f => f)
  have hks5 := kept_set w4 gn 2 (.int .i64 (hi - tk))
  have hB5 := set_block _ gn 2 _ _ _ hB4 (.int .i64 (hi - tk))
  simp only [List.setIfInBounds_toArray, List.set_cons_succ, List.set_cons_zero] at hB5
  have hw1 : IntKind.i64.wrap (hi - tk) = hi - tk := by simp [IntKind.wrap, IntKind.bits, IntKind.signed]; omega
  go_upto_region 16 with (at_builtin; refine wp_app2 rfl (.tmp 34) (.tmp 37) 59 59 rfl _ _ rfl rfl _ w4 HR.out ?_)
  go_upto_region 17 with fail
  generalize hw5 : w4.setCell ⟨gn, 2, none⟩ (.int .i64 (hi - tk)) = w5 at *
  have hwv5 := hks5.ownsRow HWV4.out (fun q hq e => by subst e; have := (HWV4.out.lt _ hq).1; have := HS2.out; omega)
  obtain ⟨wg, wc', e1, hco⟩ := own_look (l := ways) (i := 0) (by rw [HNW.out] at hwv5; exact hwv5) hw0
  simp only [Value.slice.injEq] at e1
  obtain ⟨rfl, hx8, rfl⟩ := e1
  clear hx8
  have hmem := getD_mem hw0
  have hm0 := hwr _ hmem
  obtain ⟨m, hm⟩ : ∃ m : Nat, ways.getD 0 0 = (m : Int) := ⟨(ways.getD 0 0).toNat, by omega⟩
  rw [hm] at hco hmem
  have HMM := hid_of hmem
  have hjI : (0 : Int) < (ways.length : Int) := by omega
  have hks6 := kept_set w5 gn 1 (.int .i64 (m : Int))
  have hB6 := set_block _ gn 1 _ _ _ hB5 (.int .i64 (m : Int))
  simp only [List.setIfInBounds_toArray, List.set_cons_succ, List.set_cons_zero] at hB6
  have nf1 := frozen_block _ gn 1 _ _ hB5
  have y1 := cell_block _ gn 1 _ _ _ hB5
  have HKS5 := hid_of hks5
  clear hm hm0 hmem hwv5 n0 n1 n2 n3 q0 q1 hB4 hB5 hks5 nf2 hw5
  go_upto_region 18 with fail
  generalize hw7 : w5.setCell ⟨gn, 1, none⟩ (.int .i64 (m : Int)) = w7 at *
  have HKS := hid_of (HKS5.out.trans hks6)
  have ho7 := HKS.out.ownsRow HO4.out (fun q hq e => by subst e; have := (HO4.out.lt _ hq).1; have := HS2.out; have := HS23.out; omega)
  have hsz : w3.heap.size ≤ w7.heap.size := by have h1 := HKS.out.size; have h3 := HK34.out.size; omega
  obtain ⟨v8, w8, hr8, ho8, hk8, _⟩ := push_frame2 ho7 (.int .i64 (fn : Int)) (.int .i64 (m : Int)) (.int .i64 (hi - tk)) (.slice bo bl bc) rfl rfl rfl rfl hsz (by omega)
  obtain ⟨va8, vc8, hvs8⟩ := ownsRow_shape ho8
  obtain ⟨k1, hk1⟩ : ∃ q, q = k + 1 := ⟨_, rfl⟩
  rw [← hk1] at hvs8
  subst hvs8
  have hkt : Kept (fun _ => False) w w8 := ((HKW.out.trans HK4.out).step HKS.out (fun i hi e => by have := HGB.out; have := HGN.out; omega)).step hk8 (fun i hi e => by
    have h1 := (HO4.out.lt i e).1
    have h2 := HS2.out
    have h3 := HS23.out
    have h4 := HGB.out
    have h5 := HGN.out
    omega)
  have HK8 := hid_of hk8
  have HR8 := hid_of hr8
  have HKT := hid_of hkt
  have HO8 := hid_of ho8
  obtain ⟨y0, y1, y2, y3, _⟩ := look4 hB6
  clear hr8 ho8 hk8 hkt ho7 hks6 hB6 hsz hw7 hk1
  go_upto_region 19 with (at_builtin; refine wp_app2 rfl (.tmp 74) (.tmp 76) 59 59 rfl _ _ rfl rfl _ w8 HR8.out ?_)
  have HKW8 : Hid (Kept (fun q => gn ≤ q) W w8) := ((HK4.out.mono (fun _ _ f => f.elim)).step HKS.out (fun i hi e => by omega)).step HK8.out (fun i hi e => by
    have h1 := (HO4.out.lt i e).1
    have h2 := HS2.out
    have h3 := HS23.out
    omega)
  have hcx := cell_block _ _ 1 _ _ _ (box_kept HKW8.out HB2.out (fun f => by have := HGN.out; omega))
  have hcp := cell_block _ _ 2 _ _ _ (box_kept HKW8.out HB1.out (fun f => by have := HGN.out; omega))
  have hpg8 := HPG0.out.kept HKT.out (fun _ _ f => f)
  obtain ⟨dv', fv', e', hd', hdl', hf'⟩ := hpg8
  simp at e'
  obtain ⟨rfl, rfl⟩ := e'
  have hf1 := HFA.out
  rw [Int.toNat_natCast] at hf1
  have hanl : an < p.fns.length := (List.getElem?_eq_some_iff.1 hf1).1
  obtain ⟨pg, po, f', e2, hgB, hfi, hfr⟩ := hf'.at (i := an) hanl
  subst e2
  have ef : f' = fa := by rw [hf1] at hfi; exact (Option.some.inj hfi).symm
  subst ef
  obtain ⟨cao, cc, x0, x1, x2, x3, hri, hcl⟩ := fn_read hfr
  have hanI : (an : Int) < (nf : Int) := by rw [HHN.out]; omega
  obtain ⟨nc, hnc⟩ : ∃ z, z = f'.code.length := ⟨_, rfl⟩
  rw [← hnc] at x3 hfl2 hfl1
  have HNC := hid_of hnc
  have hrb : ∀ q, (Value.slice va8 k1 vc8).ownBlock = some q → gn < q := fun q e => by
    have h1 := (HO8.out.lt q e).1
    have h2 := HS2.out
    have h3 := HS23.out
    omega
  have hpgl : pg < gn := by have h1 := HBB.out; have h2 := HGN.out; omega
  have hgl2 : gb + 1 < gn := by have h2 := HGN.out; omega
  have HSX : Hid (∀ w', Kept (fun q => (Value.slice va8 k1 vc8).ownBlock = some q) w8 w' → w'.cell? ⟨gb, 2, none⟩ = some (.slice (some ⟨pg, po, none⟩) nf fc) ∧ w'.cell? ⟨gb + 1, 1, none⟩ = some (.int .i64 (an : Int)) ∧ w'.cell? ⟨pg, po + an * 4 + 3, none⟩ = some (.slice cao nc cc)) := fun w' hw =>
    ⟨hw.cell hcp (fun f => by have h1 : gn < gb := hrb gb f; omega), hw.cell hcx (fun f => by have h1 : gn < gb + 1 := hrb (gb + 1) f; omega), hw.cell x3 (fun f => by have h1 : gn < pg := hrb pg f; omega)⟩
  clear hnc x0 x1 x2 x3 hri hcl hfr hfi hgB hd' hdl' hf' hf1 hcx hcp y0 y1 y2 y3
  refine wp_region_held_drew (S := fun w' => Kept (fun q => (Value.slice va8 k1 vc8).ownBlock = some q) w8 w') (by kernel_rfl) ((Kept.refl _ _).drew) (fun hHeld => ?_)
  have hKd : Kept (fun _ => False) w8 w8.drew := (Kept.refl _ _).drew
  generalize w8.drew = wd at *
  iterate 12
    refine tkn (v := ?_) 0 rfl ?_ ?_; rotate_left 1
    · intro w hSw; obtain ⟨a0, a1, a2⟩ := HSX.out w hSw; go_simp; try with_reducible rfl
    try simp only [Act.put, tdy]
  have hmk := makeBool wd nc (by omega)
  refine wpAnyH_ready (rs := [12]) (by kernel_rfl) (by simp) ?_
  refine AllReadyH.cons rfl (fun K hK => ?_) AllReadyH.nil
  go_simp
  refine hK.out _ _ (hHeld.alloc _) (fun hHeld => ?_)
  clear hK K hmk
  try simp only [Act.put, tdy]
  have hk1 := hKd.alloc (.cells (zbool nc) 4)
  have hb1 := heap_alloc_new wd (.cells (zbool nc) 4)
  have hgq := hKd.size
  generalize wd.alloc (.cells (zbool nc) 4) = wd1 at *
  generalize wd.heap.size = gq at *
  have hg8 : gn < w8.heap.size := by have h1 := (Array.getElem?_eq_some_iff.1 HB3.out).1; have h2 := HKW8.out.size; omega
  have hb38 : w3.heap.size ≤ w8.heap.size := by have h1 := HK34.out.size; have h2 := HKS.out.size; have h3 := HK8.out.size; omega
  obtain ⟨v9, w9, hr9, ho9, hk9, _⟩ := push_frame2 (W := wd1) (hk1.ownsRow HO8.out (fun _ _ f => f)) (.int .i64 (an : Int)) (.int .i64 0) (.int .i64 0) (.slice (some ⟨gq, 0, none⟩) nc nc) rfl rfl rfl rfl (by have := hk1.size; omega) (by omega)
  obtain ⟨va9, vc9, hvs9⟩ := ownsRow_shape ho9
  obtain ⟨k2, hk2⟩ : ∃ q, q = k + 1 + 1 := ⟨_, rfl⟩
  rw [← hk2] at hvs9
  subst hvs9
  have hk89 : Kept (fun q => (Value.slice va8 k1 vc8).ownBlock = some q) w8 w9 := (hk1.mono (fun _ _ f => f.elim)).trans hk9
  have hkt : Kept (fun _ => False) w w9 := HKT.out.step hk89 (fun i hi e => by have h1 := hrb i e; have h2 := HGB.out; have h3 := HGN.out; omega)
  have HEND : Hid (Frs w9 B2 (.slice va9 k2 vc9) ((fs ++ [⟨now.fn, m, now.high - tk, now.been⟩]) ++ [⟨(an : Int).toNat, 0, 0, List.replicate nc false⟩]) ((bv ++ [.slice bo bl bc]) ++ [.slice (some ⟨gq, 0, none⟩) nc nc])) := by
    have hL9 := HL0.out.same hkt
    obtain ⟨f1, f2, f3, f4, f5, f6⟩ := hL9.init HLB.out
    have hb2 : B2 ≤ w3.heap.size := by
      have h1 := HB22.out
      have h2 := HGB.out
      have h3 := HGN.out
      have h4 := HS2.out
      have h5 := HS23.out
      omega
    have hnb : OwnL w9 B2 (.slice (some ⟨gq, 0, none⟩) nc nc) nc (List.replicate nc false) := hk9.ownsRow (own_zbool wd1 B2 gq nc hb1 (by omega) (by omega)) (fun q hq e => by
      have h1 := (HO8.out.lt q e).2
      simp [Value.ownBlock] at hq
      omega)
    refine Frs.more (by simp [HLB.out]) (been_last HLB.out f1 f4) hL9.some' hL9.ap ?_ (by simpa using hnb) ⟨gq, rfl⟩ (fun b' hb' e => by
      have h1 := HL0.out.low b' hb' gq (by rw [e]; rfl)
      have h2 := HGB.out
      have h3 := HGN.out
      omega)
    have h9 := own_mono ho9 hb2
    rw [frsC_app fs _ bv _ HLB.out, List.length_append, ← HLK.out]
    rw [HFN.out, HHI.out] at h9
    simpa [frsC, frC] using h9
  have HR9 := hid_of hr9
  have HKT9 := hid_of hkt
  have HK89 := hid_of hk89
  clear hr9 ho9 hk9 hk89 hkt hb1 hg8 hb38 hgq hk2
  iterate 1
    refine tkn (v := ?_) 13 rfl ?_ ?_; rotate_left 1
    · intro w hSw; go_simp; try with_reducible rfl
    try simp only [Act.put, tdy]
  refine wpAnyH_ready (rs := [14]) (by kernel_rfl) (by simp) ?_
  refine AllReadyH.cons rfl (fun K hK => ?_) AllReadyH.nil
  go_simp
  refine hK.out _ _ (hHeld.alloc _) (fun hHeld => ?_)
  clear hK K
  try simp only [Act.put, tdy]
  refine wpAnyH_ready (rs := [15]) (by kernel_rfl) (by simp) ?_
  refine AllReadyH.cons rfl (fun K hK => ?_) AllReadyH.nil
  refine step_app rfl (.tmp 78) (.tmp 92) 59 59 rfl _ _ rfl rfl (.slice va9 k2 vc9) w9 HR9.out ?_
  refine hK.out _ _ HK89.out (fun hHeld => ?_)
  clear hK K
  try simp only [Act.put, tdy]
  iterate 1
    refine tkn (v := ?_) 16 rfl ?_ ?_; rotate_left 1
    · intro w hSw; go_simp; try with_reducible rfl
    try simp only [Act.put, tdy]
  refine wpAnyH_done (by kernel_rfl) ?_ _
  clear hHeld HSX HK89 HR9
  go_wp2
  go_ret
  exact ⟨HKT9.out, .slice va9 k2 vc9, m, _, HMM.out, rfl, by have h9 := HEND.out; rw [HBL.out, HNC.out] at h9; exact h9⟩
end Go.Proofs.YtcaadgcfceommaaGreat

namespace Go.Proofs.YtcaadgcfceommaaGreat
open Go.RowKit
set_option linter.unusedVariables false
set_option linter.unusedSimpArgs false
set_option maxRecDepth 100000

/-- A place is marked. -/
theorem Frs.mark {w : World} {B : Nat} {v : Value} {fs : List FR} {bv : List Value} {now : FR} {g n c : Nat} (h : Frs w B v (fs ++ [now]) (bv ++ [.slice (some ⟨g, 0, none⟩) n c])) (hlen : bv.length = fs.length) (i : Nat) :
    Frs (w.setCell ⟨g, i, none⟩ (.bool true)) B v (fs ++ [⟨now.fn, now.at', now.high, now.been.set i true⟩]) (bv ++ [.slice (some ⟨g, 0, none⟩) n c]) ∧ Kept (fun q => q = g) w (w.setCell ⟨g, i, none⟩ (.bool true)) ∧ B ≤ g := by
  obtain ⟨f1, f2, f3, f4, f5, f6⟩ := h.init hlen
  have hk := kept_set w g i (.bool true)
  have hg := (f4.lt g rfl).1
  have hrow := hk.ownsRow h.row (fun q hq e => own_two h.row f4 (by decide) q hq (by rw [e]; rfl))
  have hn : n = now.been.length := by
    obtain ⟨ao, c', e⟩ := ownsRow_shape f4
    simp only [Value.slice.injEq] at e
    exact e.2.1
  subst hn
  refine ⟨Frs.more hlen (fun j d e hd he => hk.ownsRow (f1 j d e hd he) (fun q hq e' => ?_)) f2 f3 ?_ ?_ f5 f6, hk, hg⟩
  · subst e'
    exact f6 e (List.mem_of_getElem? he) hq
  · rw [frsC_app fs [now] bv _ hlen, List.length_append] at hrow
    exact hrow
  · show OwnL _ B _ (now.been.set i true).length (now.been.set i true)
    rw [List.length_set]
    unfold OwnL
    rw [show bools (now.been.set i true) = (bools now.been).set i (.bool true) by simp [bools, List.map_set]]
    exact (World.ownsRow.stored f4 i (.bool true)).1
/-- All facts, read. -/
theorem FactsAt.all {w : World} {B nf : Nat} {v : Value} {fx : FX} (h : FactsAt w B nf v fx) (hn : fx.tops.length = nf) : ∃ hao hc tao tc lao lc gl HV LV, v = .agg #[.slice hao nf hc, .slice tao nf tc, .slice lao nf lc, .slice (some ⟨gl, 0, none⟩) nf nf, .int .i64 fx.cells, .int .i64 fx.cost] ∧ w.ownsRow B 30 1 (.slice hao nf hc) nf HV ∧ (∀ (i : Nat) (l : List Int), fx.heights[i]? = some l → ∃ u, HV[i]? = some u ∧ OwnN w 0 u l) ∧
    w.ownsRow B 30 1 (.slice lao nf lc) nf LV ∧ (∀ (i : Nat) (l : List Int), fx.loops[i]? = some l → ∃ u, LV[i]? = some u ∧ OwnN w 0 u l) ∧ w.ownsRow B 4 1 (.slice (some ⟨gl, 0, none⟩) nf nf) nf (bools fx.live) := by
  obtain ⟨hvv, tvv, lvv, gl, HV, LV, e, h1, h2, h3, h4, h5, h6⟩ := h
  obtain ⟨a1, c1, rfl⟩ := ownsRow_shape h1
  obtain ⟨a2, c2, rfl⟩ := ownsRow_shape h3
  obtain ⟨a3, c3, rfl⟩ := ownsRow_shape h4
  rw [hn] at e h3
  exact ⟨a1, c1, a2, c2, a3, c3, gl, HV, LV, e, h1, h2, h4, h5, h6⟩
/-- What the frames' numbers are, where they fit. -/
theorem susp_rng {p : PG} {bs : List BD} {K : Nat → Int} (h : Bs p bs) : ∀ (cs : List FR) (q : Nat), Susp p bs K cs q → FrR p cs
  | [], q, _, c, hc => by simp at hc
  | d :: cs, q, hs, c, hc => by
    obtain ⟨s1, ⟨i, i1, i2, i3, i4, i5⟩, s3, s4⟩ := hs
    rcases List.mem_cons.1 hc with rfl | hc
    · obtain ⟨f, b, x, hp⟩ := place h i1
      obtain ⟨l1, l2, l3⟩ := loc_rng hp.ba
      have hlt : c.fn < p.fns.length := (List.getElem?_eq_some_iff.1 hp.ba.fn).1
      have ho := i1.2
      rw [hp.ba.gd] at ho
      have hr := hs_rng hp.ba.ok hp.ba.bd ho
      simp only [Int.toNat_natCast] at hr
      have e1 : hsO bs c.fn i = b.hs.getD i 0 := by unfold hsO; rw [hp.ba.gd]
      have e2 : stO bs c.fn i = b.ss.getD i st0 := by unfold stO; rw [hp.ba.gd]
      rw [e1, e2] at i5
      rw [e2] at i2
      have h5 := hr.2.2.2.2 i2
      exact ⟨hlt, by omega, by omega, by omega, by omega⟩
    · exact susp_rng h cs d.fn s4 c hc
theorem WI.rng {p : PG} {bs : List BD} {C : Nat → Nat → Int} {K : Nat → Int} (hB : Bnd p bs C K) {cs : List FR} {now : FR} {done : Int} (h : WI p bs C K cs now done) : FrR p (now :: cs) := fun c hc => by
  rcases List.mem_cons.1 hc with rfl | hc
  · obtain ⟨f, b, x, hp⟩ := place hB.hb h.ok.in'
    obtain ⟨l1, l2, l3⟩ := loc_rng hp.ba
    have hlt : c.fn < p.fns.length := (List.getElem?_eq_some_iff.1 hp.ba.fn).1
    have h1 := hp.lo
    have h2 := h.high
    exact ⟨hlt, by omega, by omega, by omega, by omega⟩
  · exact susp_rng hB.hb cs _ h.su c hc
end Go.Proofs.YtcaadgcfceommaaGreat

namespace Go.Proofs.YtcaadgcfceommaaGreat
open Go.RowKit
set_option linter.unusedVariables false
set_option linter.unusedSimpArgs false
set_option maxRecDepth 100000

theorem last_some {α : Type} : ∀ (l : List α), 0 < l.length → ∃ a b, l = a ++ [b]
  | [], h => by simp at h
  | [x], _ => ⟨[], x, rfl⟩
  | x :: y :: l, _ => by
    obtain ⟨a, b, e⟩ := last_some (y :: l) (by simp)
    exact ⟨x :: a, b, by rw [e]; rfl⟩
/-- What walked leaves: the calls under way, as one goes on. -/
def WalkR (p : PG) (bs : List BD) (C : Nat → Nat → Int) (K : Nat → Int) (B2 : Nat) (cs : List FR) (done : Int) (w : World) (e : Ending) (w' : World) : Prop :=
  Kept (fun _ => False) w w' ∧ ∃ (v' : Value) (cs' : List FR) (now' : FR) (bv' : List Value) (bn' : Value), e = .returned v' ∧ Frs w' B2 v' (cs'.reverse ++ [now']) (bv' ++ [bn']) ∧ bv'.length = cs'.length ∧ WI p bs C K cs' now' (done + 1) ∧ cs'.length ≤ cs.length + 1
theorem walked_any (v : Value) (p : PG) (w : World) (B : Nat) (h : PgIs w B v p) (hB : B ≤ w.heap.size) (ho : p.Ok) {bs : List BD} {C : Nat → Nat → Int} {K : Nat → Int} (hN : Bnd p bs C K) (lv : Value) (cs : List FR) (now : FR) (done : Int) (hwi : WI p bs C K cs now done) (bv : List Value) (bn : Value) (B2 : Nat)
    (hl : Frs w B2 lv (cs.reverse ++ [⟨now.fn, now.at', now.high, now.been.set now.at' true⟩]) (bv ++ [bn])) (hlb : bv.length = cs.length) (hB2 : B2 ≤ w.heap.size) (hcl : cs.length ≤ 200) {f : FN} {b : BD} {x : IN} (hp : Plc p bs now.fn now.at' f b x) (h1 : x.op ≠ 1) (h2 : x.op ≠ 2) (h18 : x.op = 18 → cs ≠ []) (pick : Int) (hp0 : -9223372036854775808 ≤ pick) (hp1 : pick < 9223372036854775808) :
    Calls Tryz.prog 28 #[v, lv, .agg #[.int .i64 x.op, .int .i64 x.a], .int .i64 pick] w (WalkR p bs C K B2 cs done w) := by
  obtain ⟨hNx, hTk⟩ := hp.nexts
  have hall := (plain_ok p hN.hb.pl).2
  have hrg := tkgv_rng p f x hp.ba.fo hall
  obtain ⟨tk, gv, htg⟩ : ∃ tk gv, tkgv p f x = (tk, gv) := ⟨_, _, rfl⟩
  rw [htg] at hTk hrg
  have hhi : 0 ≤ now.high ∧ now.high ≤ 256 := by have h1 := hp.lo; have h2 := hwi.high; omega
  have hwr : ∀ m ∈ wayL x now.at', 0 ≤ m := fun m hm => (hp.nx m hm).1
  have hlr : bv.length = cs.reverse.length := by rw [List.length_reverse]; exact hlb
  have hwl : (wayL x now.at').length ≤ 2 := by
    unfold wayL
    repeat' split
    all_goals simp
  by_cases h17 : x.op = 17
  · have hw0 := way_on (i := now.at') h1 h2 (show x.op ≠ 18 by omega)
    have hmm := getD_mem hw0
    have hc9 : ∀ m : Nat, (m : Int) ∈ wayL x now.at' → _ := fun m hm => hwi.call hN hp h17 hm
    obtain ⟨m0, hm0⟩ : ∃ m : Nat, (wayL x now.at').getD 0 0 = (m : Int) := ⟨((wayL x now.at').getD 0 0).toNat, by have := hwr _ hmm; omega⟩
    rw [hm0] at hmm
    obtain ⟨ha0, ha1, _⟩ := hc9 m0 hmm
    obtain ⟨fa, ba, hba⟩ := hN.hb.in' (q := x.a.toNat) (by omega)
    refine (walked_call v p w B h hB ho lv cs.reverse ⟨now.fn, now.at', now.high, now.been.set now.at' true⟩ bv bn B2 hl hlr hB2 (by rw [List.length_reverse]; omega) x tk gv hTk hrg.1 hrg.2 hhi (wayL x now.at') hNx pick hw0 hwl hwr fa hba.fn ha0 hba.fo.n.2 hba.fo.n.1 h17).mono ?_
    rintro e w' ⟨hk, v', m, nb, hm, rfl, hf⟩
    have h9 := (hc9 m hm).2.2 fa.code.length (by rw [hba.gd]; exact hba.slen.symm)
    rw [htg] at h9
    refine ⟨hk, v', ⟨now.fn, m, now.high - tk, now.been.set now.at' true⟩ :: cs, ⟨x.a.toNat, 0, 0, List.replicate fa.code.length false⟩, bv ++ [bn], nb, rfl, ?_, by simp [hlb], h9, by simp⟩
    rw [List.reverse_cons]
    exact hf
  · by_cases h18' : x.op = 18
    · cases cs with
      | nil => exact absurd rfl (h18 h18')
      | cons c cs =>
        obtain ⟨bg, cb, hbg⟩ := last_some bv (by rw [hlb]; simp)
        have hlg : bg.length = cs.reverse.length := by
          rw [hbg] at hlb
          simp at hlb
          rw [List.length_reverse]
          exact hlb
        have hcr := hwi.rng hN c (by simp)
        refine (walked_ret v p w B h hB ho lv (c :: cs).reverse ⟨now.fn, now.at', now.high, now.been.set now.at' true⟩ bv bn B2 hl hlr hB2 (by rw [List.length_reverse]; omega) x tk gv hTk hrg.1 hrg.2 hhi (wayL x now.at') hNx pick cs.reverse c bg cb (by rw [List.reverse_cons]) hbg hlg ⟨hcr.2.1, hcr.2.2.1⟩ h18').mono ?_
        rintro e w' ⟨hk, v', rfl, hf⟩
        have h9 := hwi.ret hN hp h18'
        rw [htg] at h9
        rw [hbg] at hf
        exact ⟨hk, v', cs, _, bg, cb, rfl, hf, by rw [hlg, List.length_reverse], h9, by simp; omega⟩
    · have hw0 := way_on (i := now.at') h1 h2 h18'
      refine (walked_go v p w B h hB ho lv cs.reverse ⟨now.fn, now.at', now.high, now.been.set now.at' true⟩ bv bn B2 hl hlr hB2 (by rw [List.length_reverse]; omega) x tk gv hTk hrg.1 hrg.2 hhi (wayL x now.at') hNx pick hw0 hwl hwr hp0 hp1 h17 h18').mono ?_
      rintro e w' ⟨hk, v', m, hm, rfl, hf⟩
      have h9 := hwi.go hN hp h17 hm
      rw [htg] at h9
      exact ⟨hk, v', cs, _, bv, bn, rfl, hf, hlb, h9, by omega⟩
/-- What a round sees of the program and of the facts. -/
theorem seen {w3 : World} {B BF nf nd dc fc pg po hc tc lc gl : Nat} {mem fce fco : Int} {dao hao tao lao : Option Addr} {p : PG} {bs : List BD} {C : Nat → Nat → Int} {K : Nat → Int} {cs : List FR} {now : FR} {done : Int} {fx : FX}
    (hpg : PgIs w3 B (.agg #[.int .i64 mem, .slice dao nd dc, .slice (some ⟨pg, po, none⟩) nf fc]) p) (hnf : nf = p.fns.length) (hfa : FactsAt w3 BF nf (.agg #[.slice hao nf hc, .slice tao nf tc, .slice lao nf lc, .slice (some ⟨gl, 0, none⟩) nf nf, .int .i64 fce, .int .i64 fco]) fx) (htl : fx.tops.length = nf) (hfx : fx = factsP p bs) (hB : Bnd p bs C K) (hwi : WI p bs C K cs now done) :
    ∃ (f : FN) (b : BD) (x : IN) (cg co cc hg hg2 huc lo nc : Nat) (lu : Value), Plc p bs now.fn now.at' f b x ∧ now.fn < nf ∧ now.at' < nc ∧ nc ≤ 4096 ∧ now.been.length = nc ∧ hao = some ⟨hg, 0, none⟩ ∧ lao = some ⟨lo, 0, none⟩ ∧
      w3.cell? ⟨pg, po + now.fn * 4 + 3, none⟩ = some (.slice (some ⟨cg, co, none⟩) nc cc) ∧ w3.cell? ⟨cg, co + now.at' * 2, none⟩ = some (.int .i64 x.op) ∧ w3.cell? ⟨cg, co + now.at' * 2 + 1, none⟩ = some (.int .i64 x.a) ∧
      w3.cell? ⟨hg, now.fn, none⟩ = some (.slice (some ⟨hg2, 0, none⟩) nc huc) ∧ w3.cell? ⟨hg2, now.at', none⟩ = some (.int .i64 now.high) ∧ w3.cell? ⟨gl, now.fn, none⟩ = some (.bool true) ∧ w3.cell? ⟨lo, now.fn, none⟩ = some lu ∧ OwnN w3 0 lu b.loops ∧ b.loops.length ≤ 10000 ∧ (now.been.getD now.at' false = true → (now.at' : Int) ∈ b.loops) ∧ (0 ≤ now.high ∧ now.high ≤ 256) := by
  obtain ⟨f, b, x, hp⟩ := place hB.hb hwi.ok.in'
  obtain ⟨s1, s2, _, _⟩ := hwi.sees hB
  have hlt : now.fn < p.fns.length := (List.getElem?_eq_some_iff.1 hp.ba.fn).1
  obtain ⟨dv, fv, e, hd, hdl, hf⟩ := hpg
  simp only [Value.agg.injEq, Array.mk.injEq, List.cons.injEq, and_true] at e
  obtain ⟨_, rfl, rfl⟩ := e
  obtain ⟨pg', po', cg, co, cc, ea, y0, y1, y2, y3, hri, _, _⟩ := row_instr hf hp.ba.fn hp.cx
  cases ea
  obtain ⟨z0, z1⟩ := rowI_cell hri hp.cx
  obtain ⟨hao', hc', tao', tc', lao', lc', gl', HV, LV, ev, hrow, hht, lrow, hlt', hlive⟩ := hfa.all htl
  simp only [Value.agg.injEq, Array.mk.injEq, List.cons.injEq, Value.slice.injEq, Option.some.injEq, Addr.mk.injEq, and_true, true_and] at ev
  obtain ⟨⟨rfl, rfl⟩, ⟨rfl, rfl⟩, ⟨rfl, rfl⟩, rfl, _, _⟩ := ev
  obtain ⟨b', hb1, hb2⟩ := hB.hb.bd now.fn f hp.ba.fn
  have hbb : b' = b := by
    have := hp.ba.gd
    simp [List.getD, hb1] at this
    exact this
  subst hbb
  obtain ⟨u, hu, huO⟩ := hht now.fn b'.hs (by rw [hfx]; show (bs.map BD.hs)[now.fn]? = _; rw [List.getElem?_map, hb1]; rfl)
  obtain ⟨lu, hlu, hluO⟩ := hlt' now.fn b'.loops (by rw [hfx]; show (bs.map BD.loops)[now.fn]? = _; rw [List.getElem?_map, hb1]; rfl)
  obtain ⟨hg, hgc, e1⟩ := own_at9 hrow (by omega)
  obtain ⟨lo, lgc, e2⟩ := own_at9 lrow (by omega)
  simp only [Value.slice.injEq] at e1 e2
  obtain ⟨rfl, _, rfl⟩ := e1
  obtain ⟨rfl, _, rfl⟩ := e2
  have hli := hp.li
  obtain ⟨hg2, huc, e3, hcell⟩ := own_look huO (i := now.at') (by rw [hp.hl]; exact hli)
  have hhe : now.high = b'.hs.getD now.at' 0 := by rw [hwi.high]; unfold hsO; rw [hp.ba.gd]
  rw [← hhe] at hcell
  rw [hp.hl] at e3
  subst e3
  have hlo := hp.lo
  have hhi := hwi.high
  refine ⟨f, b', x, cg, co, cc, hg, hg2, huc, lo, f.code.length, lu, hp, by omega, hli, hp.ba.fo.n.2, ?_, rfl, rfl, y3, z0, z1, ?_, hcell, ?_, ?_, hluO, ?_, ?_, by omega⟩
  · rw [hwi.ok.len, hp.ba.gd, hp.ba.slen]
  · rw [hrow.cellAt _ (by omega)]; exact hu
  · rw [hlive.cellAt _ (by omega)]
    have hll : now.fn < fx.live.length := by
      by_cases hc : now.fn < fx.live.length
      · exact hc
      · rw [← hfx] at s1
        simp [List.getD, List.getElem?_eq_none (Nat.le_of_not_lt hc)] at s1
    rw [← hfx] at s1
    simp only [bools, List.getElem?_map, List.getElem?_eq_getElem hll, Option.map_some]
    simp [List.getD, List.getElem?_eq_getElem hll] at s1
    rw [s1]
  · rw [lrow.cellAt _ (by omega)]; exact hlu
  · have hbd := hp.ba.bd
    unfold bodyD at hbd
    split at hbd
    · cases hbd
      have h1 := loopsF_len (tourP (nxOf (stepsL p f)) f.code.length).again f.code.length
      have h2 := hp.ba.fo.n.2
      show (loopsF _ _).length ≤ 10000
      omega
    · cases hbd
  · intro hb
    have := s2 hb
    rw [hp.ba.gd] at this
    exact this
theorem mod_row {w : World} {pao : Option Addr} {pc np : Nat} {ns : List Int} (hu : RowN w (.slice pao np pc) ns) (hnp : np = ns.length) (hnr : ∀ x ∈ ns, -9223372036854775808 ≤ x ∧ x < 9223372036854775808) {j : Nat} (hj : j < np) : ∃ (ng no : Nat) (z : Int), pao = some ⟨ng, no, none⟩ ∧ w.cell? ⟨ng, no + j, none⟩ = some (.int .i64 z) ∧ (-9223372036854775808 ≤ z ∧ z < 9223372036854775808) := by
  have hjn : j < ns.length := by rw [← hnp]; exact hj
  rcases hu with ⟨e, _⟩ | ⟨g1, o1, c1, e, _, hc1⟩
  · rw [e] at hjn; simp at hjn
  · cases e
    exact ⟨g1, o1, ns[j], rfl, hc1 j _ (List.getElem?_eq_getElem hjn), hnr _ (List.getElem_mem hjn)⟩
theorem frs_some {w : World} {B : Nat} {v : Value} {fs : List FR} {bv : List Value} (h : Frs w B v fs bv) (hn : 0 < fs.length) : ∃ g c, v = .slice (some ⟨g, 0, none⟩) fs.length c := own_at9 h.row hn
end Go.Proofs.YtcaadgcfceommaaGreat

/-
  TWh: Wh.
-/
import Derived.Test.YtcaadgcfceommaaGreatTWd
import Derived.Test.YtcaadgcfceommaaGreatTHj
namespace Go.Proofs.YtcaadgcfceommaaGreat
open Go.RowKit
set_option linter.unusedVariables false
set_option linter.unusedSimpArgs false
set_option maxRecDepth 100000

theorem eqNil59 (w : World) (a : Option Addr) (n c n' c' : Nat) : (binOp .eql 59 (.slice a n c) (.slice none n' c')).run Tryz.prog w = .ok (.bool a.isNone) w := Lib.run_eql_slice_nil w _ _ a n c n' c' Tryz.underlying59
set_option maxHeartbeats 40000000 in
theorem walks_walk (v u : Value) (p : PG) (ns : List Int) (steps : Int) (w : World) (B : Nat) (h : PgIs w B v p) (hB : B ≤ w.heap.size) (ho : p.Ok) (hu : RowN w u ns) (hnr : ∀ x ∈ ns, -9223372036854775808 ≤ x ∧ x < 9223372036854775808) (hnl : ns.length ≤ 17592186043904) (hs0 : -9223372036854775808 ≤ steps) (hs1 : steps < 9223372036854775808) :
    Calls Tryz.prog 7 #[v, u, .int .i64 steps] w fun e w' => e = .returned (.bool true) ∧ Kept (fun _ => False) w w' := by
  have hpg := h
  obtain ⟨dv, fv, rfl, hd, hdl, hf⟩ := h
  obtain ⟨dao, dc, rfl⟩ := hd.shape
  obtain ⟨fao, fc, rfl⟩ := hf.shape
  obtain ⟨pao, pc, rfl⟩ := hu.shape
  obtain ⟨np, hnp⟩ : ∃ n, n = ns.length := ⟨_, rfl⟩
  rw [← hnp] at hu ⊢
  obtain ⟨nf, hnf⟩ : ∃ n, n = p.fns.length := ⟨_, rfl⟩
  obtain ⟨nd, hnd⟩ : ∃ n, n = p.data.length := ⟨_, rfl⟩
  obtain ⟨mem, hmem⟩ : ∃ n, n = p.mem := ⟨_, rfl⟩
  rw [← hnf, ← hnd, ← hmem] at hpg ⊢
  have hlf := ho.len
  rw [← hnf] at hlf
  have hnfI : (nf : Int) ≤ 140737488351232 := by omega
  obtain ⟨gb, hgb⟩ : ∃ g, g = w.heap.size := ⟨_, rfl⟩
  obtain ⟨W, hW⟩ : ∃ W, W = w.alloc (.cells #[.int .i64 mem, .slice dao nd dc, .slice fao nf fc] 25) := ⟨_, rfl⟩
  have k1 : Kept (fun _ => False) w W := by rw [hW]; exact (Kept.refl _ _).alloc _
  have x1 : W.heap[gb]? = some (.cells #[.int .i64 mem, .slice dao nd dc, .slice fao nf fc] 25 (0, 0)) := by rw [hW, hgb]; exact heap_alloc_new w _
  have HKW := hid_of k1
  have HB1 := hid_of x1
  have HPG := hid_of (hpg.kept k1 (fun _ _ f => f))
  have HBW : Hid (B ≤ W.heap.size) := Nat.le_trans hB k1.size
  have HO := hid_of ho
  have HU := hid_of (hu.same k1)
  have HNP := hid_of hnp
  have HNR := hid_of hnr
  have HS0 := hid_of hs0
  have HS1 := hid_of hs1
  have hnlI : (np : Int) ≤ 17592186043904 := by omega
  have HNF := hid_of hnf
  have HAL := hid_of (all_any _ p W B HPG.out ho)
  have c0 := cell_block _ _ 0 _ _ _ x1
  have c1 := cell_block _ _ 1 _ _ _ x1
  have c2 := cell_block _ _ 2 _ _ _ x1
  clear x1 k1 hd hdl hf hnf hnd hmem hpg ho hB hlf hu hnp hnr hs0 hs1 hnl
  go_enter Tryz.func7, Tryz.ntmps7
  go_upto_region 1 with fail
  rw [← hW, ← hgb]
  clear hW hgb
  go_wp2_with fail
  refine HAL.out.mono ?_
  rintro e w1 ⟨⟨na, rfl⟩, hk1⟩
  have HK1 := hid_of hk1
  clear hk1 HAL c0 c1 c2
  by_cases hna : 4000 < na
  · go_wp2_with fail
    refine (head_any w1).mono ?_
    rintro e w9 ⟨rfl, hk9⟩
    have HK9 := hid_of ((HKW.out.trans HK1.out).trans hk9)
    clear hk9
    go_wp2
    go_ret
    exact ⟨rfl, HK9.out⟩
  · have hnb : decide (4000 < na) = false := by simp; omega
    have hRN := run_any _ p w1 B (HPG.out.kept HK1.out (fun _ _ f => f)) (Nat.le_trans HBW.out HK1.out.size) HO.out
    rw [← HNF.out] at hRN
    have HRN := hid_of hRN
    have hb1 := box_kept HK1.out HB1.out (fun f => f)
    have c0 := cell_block _ _ 0 _ _ _ hb1
    have c1 := cell_block _ _ 1 _ _ _ hb1
    have c2 := cell_block _ _ 2 _ _ _ hb1
    clear hRN hb1
    go_wp2_with fail
    refine HRN.out.mono ?_
    rintro e w2 ⟨hk2, hm⟩
    have HK2 := hid_of (HK1.out.trans hk2)
    clear hk2 HRN c0 c1 c2 hnb hna HK1
    cases hrd : runD p with
    | error z =>
      obtain ⟨y, fi, fx⟩ := z
      rw [hrd] at hm
      obtain ⟨hy, rfl⟩ := hm
      have hyb : (y != 0) = true := by simpa using hy
      clear hrd
      obtain ⟨w3, hw3⟩ : ∃ W, W = (w2.alloc (.cells #[.slice none 0 0, .slice none 0 0, .slice none 0 0, .slice none 0 0, .int .i64 0, .int .i64 0] 33)).alloc (.cells #[.int .i64 y, .int .i64 fi, .int .i64 fx] 38) := ⟨_, rfl⟩
      obtain ⟨k3, x5, x6⟩ := allocs2 _ _ _ _ _ _ hw3
      have HK3 := hid_of (HK2.out.trans k3)
      have f0 := cell_block _ _ 0 _ _ _ x6
      have q0 := cell_block _ _ 0 _ _ _ x5
      have q1 := cell_block _ _ 1 _ _ _ x5
      have q2 := cell_block _ _ 2 _ _ _ x5
      have q3 := cell_block _ _ 3 _ _ _ x5
      have q4 := cell_block _ _ 4 _ _ _ x5
      have q5 := cell_block _ _ 5 _ _ _ x5
      clear k3 x5 x6 HK2
      go_upto_region 4 with fail
      rw [← hw3]
      clear hw3
      obtain ⟨g5, hg5⟩ : ∃ g, g = w2.heap.size := ⟨_, rfl⟩
      rw [← hg5] at f0 q0 q1 q2 q3 q4 q5 ⊢
      clear hg5
      go_wp2_with fail
      refine (head_any w3).mono ?_
      rintro e w9 ⟨rfl, hk9⟩
      have HK9 := hid_of ((HKW.out.trans HK3.out).trans hk9)
      clear hk9
      go_wp2
      go_ret
      exact ⟨rfl, HK9.out⟩
    | ok fx =>
      rw [hrd] at hm
      obtain ⟨fv, rfl, hfa⟩ := hm
      obtain ⟨bs, hbs, hfx⟩ := run_bs hrd
      obtain ⟨C, K, hBN⟩ := bnd_some hbs
      have htl := run_len hrd
      rw [← HNF.out] at htl
      obtain ⟨hao, hc, tao, tc, lao, lc, gl, HV, LV, rfl, _⟩ := hfa.all htl
      obtain ⟨fce, hfce⟩ : ∃ z, z = fx.cells := ⟨_, rfl⟩
      obtain ⟨fco, hfco⟩ : ∃ z, z = fx.cost := ⟨_, rfl⟩
      rw [← hfce, ← hfco] at hfa ⊢
      have HFCE := hid_of hfce
      have HFCO := hid_of hfco
      have HFX := hid_of hfx
      have HTL := hid_of htl
      have HBN := hid_of hBN
      obtain ⟨⟨hn1, hn64⟩, hfok⟩ := plain_ok p hbs.pl
      rw [← HNF.out] at hn1 hn64
      clear hrd htl hfce hfco hfx hBN hbs hfok
      obtain ⟨w3, hw3⟩ : ∃ W, W = (w2.alloc (.cells #[.slice hao nf hc, .slice tao nf tc, .slice lao nf lc, .slice (some ⟨gl, 0, none⟩) nf nf, .int .i64 fce, .int .i64 fco] 33)).alloc (.cells #[.int .i64 0, .int .i64 0, .int .i64 0] 38) := ⟨_, rfl⟩
      obtain ⟨k3, x5, x6⟩ := allocs2 _ _ _ _ _ _ hw3
      have HK3 := hid_of (HK2.out.trans k3)
      have HX5 := hid_of x5
      have HFA := hid_of (hfa.same k3)
      have f0 := cell_block _ _ 0 _ _ _ x6
      have q0 := cell_block _ _ 0 _ _ _ x5
      have q2 := cell_block _ _ 2 _ _ _ x5
      have q3 := cell_block _ _ 3 _ _ _ x5
      have hb1 := box_kept HK3.out HB1.out (fun f => f)
      have c2 := cell_block _ _ 2 _ _ _ hb1
      have HBX := hid_of hb1
      clear k3 x5 x6 hb1 HK2 hfa
      go_upto_region 4 with fail
      rw [← hw3]
      clear hw3
      obtain ⟨g5, hg5⟩ : ∃ g, g = w2.heap.size := ⟨_, rfl⟩
      rw [← hg5] at HX5 f0 q0 q2 q3 ⊢
      clear hg5
      obtain ⟨BF, hBF⟩ : ∃ g, g = w1.heap.size := ⟨_, rfl⟩
      rw [← hBF] at HFA
      clear hBF
      go_upto_region 9 with fail
      clear f0 q0 q2 q3
      obtain ⟨dv', fv', e', hd', hdl', hf'⟩ := HPG.out.kept HK3.out (fun _ _ f => f)
      simp at e'
      obtain ⟨hx9, rfl, rfl⟩ := e'
      clear hx9
      obtain ⟨pg, po, f0, e2, hgB, hfi, hfr⟩ := hf'.at (i := 0) (by rw [← HNF.out]; omega)
      subst e2
      obtain ⟨cao, cc, y0, y1, y2, y3, hri, hcl⟩ := fn_read hfr
      obtain ⟨b0, hb0⟩ := HBN.out.hb.at' hfi
      obtain ⟨nc, hnc⟩ : ∃ z, z = f0.code.length := ⟨_, rfl⟩
      have hncr := hb0.fo.n
      rw [← hnc] at y3 hncr
      simp only [Nat.zero_mul, Nat.add_zero] at y3
      have HWI : Hid (WI p bs C K [] ⟨0, 0, 0, List.replicate nc false⟩ 0) := WI.start HBN.out nc (by rw [hb0.gd, hb0.slen]; exact hnc)
      have hmk := makeBool w3 nc (by omega)
      have hnfp : (0 : Int) < (nf : Int) := by omega
      obtain ⟨w4, hw4⟩ : ∃ W, W = (w3.alloc (.cells (zbool nc) 4)).alloc (.cells #[.int .i64 0, .int .i64 0, .int .i64 0, .slice (some ⟨w3.heap.size, 0, none⟩) nc nc] 58) := ⟨_, rfl⟩
      have HFRS : Hid (Frs w4 w3.heap.size (.slice (some ⟨w3.heap.size + 1, 0, none⟩) 1 1) [⟨0, 0, 0, List.replicate nc false⟩] [.slice (some ⟨w3.heap.size, 0, none⟩) nc nc]) := by
        obtain ⟨k4, x7, x8⟩ := allocs2 _ _ _ _ _ _ hw4
        refine ⟨⟨rfl, .inr ⟨w3.heap.size + 1, 1, _, rfl, by omega, x8, Nat.le_refl _, by decide, by simp, rfl⟩⟩, rfl, fun i d e hd he => ?_, fun z hz => ?_, by simp⟩
        · have hi := (List.getElem?_eq_some_iff.1 hd).1
          have hz : i = 0 := by simpa using hi
          subst hz
          simp only [List.getElem?_cons_zero, Option.some.injEq] at hd he
          subst hd; subst he
          simpa using own_zbool w4 w3.heap.size w3.heap.size nc x7 (Nat.le_refl _) (by omega)
        · simp at hz
          subst hz
          exact ⟨_, rfl⟩
      have HK4 : Hid (Kept (fun _ => False) w3 w4) := by obtain ⟨k4, _⟩ := allocs2 _ _ _ _ _ _ hw4; exact k4
      clear hd' hdl' hf' hri hcl hfr hfi hgB y0 y1 y2 hb0 hnc
      go_upto_region 10 with fail
      rw [← hw4]
      clear hw4 hmk y3 c2
      obtain ⟨B3, hB3⟩ : ∃ z, z = w3.heap.size := ⟨_, rfl⟩
      rw [← hB3] at HFRS ⊢
      have HB3 := hid_of hB3
      clear hB3
      go_wp2_with fail
      go_loopw [10, 11] (fun lv dv wr => ∃ (lg lq k dn : Nat) (cs : List FR) (now : FR) (bv : List Value) (bn : Value), lv = .slice (some ⟨lg, 0, none⟩) (k + 1) lq ∧ dv = .int .i64 (dn : Int) ∧ k ≤ 200 ∧ dn ≤ 3000 ∧ Hid (k = cs.length) ∧ Hid (bv.length = cs.length) ∧ Hid (Frs wr B3 (.slice (some ⟨lg, 0, none⟩) (k + 1) lq) (cs.reverse ++ [now]) (bv ++ [bn])) ∧ Hid (WI p bs C K cs now (dn : Int)) ∧ Hid (Kept (fun _ => False) w3 wr)) (fun _ dv _ => 3000 - (intOf dv).toNat)
      case atStart => exact ⟨B3 + 1, 1, 0, 0, [], _, [], _, rfl, rfl, by omega, by omega, rfl, rfl, HFRS, HWI, HK4⟩
      case round =>
        clear HFRS HWI HK4
        obtain ⟨lg, lq, k, dn, cs, now, bv, bn, rfl, rfl, hk2, hdn, HK, HLB, HFR, HWI, HKR⟩ := hrel
        have hRD := rnd_any steps 3000 wr HS0.out HS1.out (by omega) (by omega)
        rw [show ((3000 : Nat) : Int) = 3000 from rfl] at hRD
        have HRD := hid_of hRD
        clear hRD
        go_wp2_with fail
        refine HRD.out.mono ?_
        rintro e w9 ⟨⟨j, hj, rfl⟩, hw9⟩
        have hw9' := hw9.symm
        clear hw9
        subst hw9'
        clear HRD
        by_cases hlt : dn < j
        · have hltI : (dn : Int) < (j : Int) := by omega
          obtain ⟨f, b, x, cg, co, cc, hg, hg2, huc, lo, nq, lu, hpl, hfn, hat, hnq, hbl, ha9, hl9, y3, z0, z1, d1, d2, d3, d4, hluO, hll, hlp, hhr⟩ := seen (HPG.out.kept HK3.out (fun _ _ f => f)) HNF.out HFA.out HTL.out HFX.out HBN.out HWI.out
          subst ha9
          subst hl9
          have HPL := hid_of hpl
          have HLU := hid_of hluO
          have HLL := hid_of hll
          have HLP := hid_of hlp
          obtain ⟨lg', lc', bb, e0, hb0, l0, l1, l2, l3, lb⟩ := HFR.out.look (i := cs.reverse.length) (c := now) (by simp)
          simp only [Value.slice.injEq, Option.some.injEq, Addr.mk.injEq, and_true] at e0
          obtain ⟨rfl, hx8, rfl⟩ := e0
          clear hx8
          have hbe : bb = bn := by
            rw [List.length_reverse, ← HLB.out] at hb0
            simp at hb0
            exact hb0.symm
          subst hbe
          rw [List.length_reverse, ← HK.out] at l0 l1 l2 l3
          obtain ⟨bg, bc, e1⟩ := own_at9 lb (by omega)
          rw [hbl] at e1
          subst e1
          have HLB2 := hid_of lb
          have HBLE := hid_of hbl
          obtain ⟨hbgB, hbgS⟩ := lb.lt bg rfl
          have hbgW : w3.heap.size ≤ bg := by rw [← HB3.out]; exact hbgB
          obtain ⟨bit, hbit⟩ : ∃ z, z = now.been.getD now.at' false := ⟨_, rfl⟩
          have HBIT := hid_of hbit
          obtain ⟨fn, hfn0⟩ : ∃ z, z = now.fn := ⟨_, rfl⟩
          obtain ⟨at', hat0⟩ : ∃ z, z = now.at' := ⟨_, rfl⟩
          obtain ⟨hi, hhi0⟩ : ∃ z, z = now.high := ⟨_, rfl⟩
          have HFN := hid_of hfn0
          have HAT := hid_of hat0
          have HHI := hid_of hhi0
          obtain ⟨xo, hxo⟩ : ∃ z, z = x.op := ⟨_, rfl⟩
          obtain ⟨xa, hxa⟩ : ∃ z, z = x.a := ⟨_, rfl⟩
          have HXO := hid_of hxo
          have HXA := hid_of hxa
          rw [← hfn0] at l0 hfn y3 d1 d3 d4
          rw [← hat0] at l1 hat d2 z0 z1
          rw [← hhi0] at l2 d2 hhr
          rw [← hxo] at z0
          rw [← hxa] at z1
          have HBC : Hid (∀ w', Kept (fun _ => False) wr w' → w'.cell? ⟨bg, at', none⟩ = some (.bool bit)) := fun w' hw => by
            have h9 := hw.ownsRow HLB2.out (fun _ _ f => f)
            rw [HBLE.out] at h9
            have hl9 : at' < nq * 1 := by omega
            rw [h9.cellAt _ hl9]
            simp only [bools, List.getElem?_map]
            rw [List.getElem?_eq_getElem (show at' < now.been.length by rw [HBLE.out]; exact hat)]
            have h8 := HBIT.out
            rw [← HAT.out] at h8
            rw [h8]
            simp [List.getD, List.getElem?_eq_getElem (show at' < now.been.length by rw [HBLE.out]; exact hat)]
          obtain ⟨w5, hw5⟩ : ∃ W, W = wr.alloc (.cells #[.int .i64 (fn : Int), .int .i64 (at' : Int), .int .i64 hi, .slice (some ⟨bg, 0, none⟩) nq bc] 58) := ⟨_, rfl⟩
          obtain ⟨gq, hgq⟩ : ∃ z, z = wr.heap.size := ⟨_, rfl⟩
          have hk5 : Kept (fun _ => False) wr w5 := by rw [hw5]; exact (Kept.refl _ _).alloc _
          have hx5 : w5.heap[gq]? = some (.cells #[.int .i64 (fn : Int), .int .i64 (at' : Int), .int .i64 hi, .slice (some ⟨bg, 0, none⟩) nq bc] 58 (0, 0)) := by rw [hw5, hgq]; exact heap_alloc_new wr _
          have hgqb : gq ≠ bg := by omega
          have HK5 := hid_of hk5
          have HSX : Hid (∀ w', Kept (fun q => q = bg) w5 w' → (w'.cell? ⟨gb, 0, none⟩ = some (.int .i64 mem) ∧ w'.cell? ⟨gb, 1, none⟩ = some (.slice dao nd dc) ∧ w'.cell? ⟨gb, 2, none⟩ = some (.slice (some ⟨pg, po, none⟩) nf fc)) ∧
              (w'.cell? ⟨g5, 0, none⟩ = some (.slice (some ⟨hg, 0, none⟩) nf hc) ∧ w'.cell? ⟨g5, 2, none⟩ = some (.slice (some ⟨lo, 0, none⟩) nf lc) ∧ w'.cell? ⟨g5, 3, none⟩ = some (.slice (some ⟨gl, 0, none⟩) nf nf) ∧ w'.cell? ⟨g5, 4, none⟩ = some (.int .i64 fce) ∧ w'.cell? ⟨g5, 5, none⟩ = some (.int .i64 fco)) ∧
              (w'.cell? ⟨gq, 0, none⟩ = some (.int .i64 (fn : Int)) ∧ w'.cell? ⟨gq, 1, none⟩ = some (.int .i64 (at' : Int)) ∧ w'.cell? ⟨gq, 2, none⟩ = some (.int .i64 hi) ∧ w'.cell? ⟨gq, 3, none⟩ = some (.slice (some ⟨bg, 0, none⟩) nq bc)) ∧
              w'.cell? ⟨pg, po + fn * 4 + 3, none⟩ = some (.slice (some ⟨cg, co, none⟩) nq cc) ∧ w'.cell? ⟨hg, fn, none⟩ = some (.slice (some ⟨hg2, 0, none⟩) nq huc) ∧ w'.cell? ⟨hg2, at', none⟩ = some (.int .i64 hi) ∧ w'.cell? ⟨gl, fn, none⟩ = some (.bool true) ∧ w'.cell? ⟨lo, fn, none⟩ = some lu ∧ w'.cell? ⟨cg, co + at' * 2, none⟩ = some (.int .i64 xo) ∧ w'.cell? ⟨cg, co + at' * 2 + 1, none⟩ = some (.int .i64 xa)) := fun w' hw => by
            have hk := (HKR.out.trans HK5.out).step hw (fun i hi e => by omega)
            have hq := box_kept hw hx5 hgqb
            have hz := box_kept hk HBX.out (fun f => f)
            have h5 := box_kept hk HX5.out (fun f => f)
            exact ⟨⟨cell_block _ _ 0 _ _ _ hz, cell_block _ _ 1 _ _ _ hz, cell_block _ _ 2 _ _ _ hz⟩, ⟨cell_block _ _ 0 _ _ _ h5, cell_block _ _ 2 _ _ _ h5, cell_block _ _ 3 _ _ _ h5, cell_block _ _ 4 _ _ _ h5, cell_block _ _ 5 _ _ _ h5⟩, ⟨cell_block _ _ 0 _ _ _ hq, cell_block _ _ 1 _ _ _ hq, cell_block _ _ 2 _ _ _ hq, cell_block _ _ 3 _ _ _ hq⟩, hk.cell y3 (fun f => f), hk.cell d1 (fun f => f), hk.cell d2 (fun f => f), hk.cell d3 (fun f => f), hk.cell d4 (fun f => f), hk.cell z0 (fun f => f), hk.cell z1 (fun f => f)⟩
          have hfnI : (fn : Int) < (nf : Int) := by omega
          have hatI : (at' : Int) < (nq : Int) := by omega
          have kI : (k : Int) < ((k + 1 : Nat) : Int) := by omega
          have hd1 : decide (nq ≤ at') = false := by simp; omega
          have hd2 : (hi != hi) = false := by simp
          clear y3 z0 z1 d1 d2 d3 d4 hpl hluO hll hlp hb0 lb hbl hbit hfn0 hat0 hhi0 hxo hxa hk5 hx5
          go_upto_region 14 with fail
          rw [← hw5, ← hgq]
          clear hw5 hgq l0 l1 l2 l3
          obtain ⟨⟨a0, a1, a2⟩, ⟨b0, b2, b3, b4, b5⟩, ⟨n0, n1, n2, n3⟩, y3, d1, d2, d3, d4, z0, z1⟩ := HSX.out w5 (Kept.refl _ _)
          go_upto_region 15 with fail
          clear a0 a1 a2 b0 b2 b3 b4 b5 n0 n1 n2 n3 y3 d1 d2 d3 d4 z0 z1
          refine wp_region_held_drew (S := fun w' => Kept (fun _ => False) w5 w') (by kernel_rfl) ((Kept.refl _ _).drew) (fun hHeld => ?_)
          iterate 39
            refine tkn (v := ?_) 0 rfl ?_ ?_; rotate_left 1
            · intro w hSw; obtain ⟨⟨a0, a1, a2⟩, ⟨b0, b2, b3, b4, b5⟩, ⟨n0, n1, n2, n3⟩, y3, d1, d2, d3, d4, z0, z1⟩ := HSX.out w (hSw.mono (fun _ _ f => f.elim)); go_simp; try with_reducible rfl
            try simp only [Act.put, tdy]
          refine wpAnyH_done (by kernel_rfl) ?_ _
          generalize w5.drew = w6 at *
          have HK6 := hid_of hHeld
          clear hHeld
          go_upto_region 17 with fail
          obtain ⟨la, lac, hlu9⟩ := ownsRow_shape HLU.out
          obtain ⟨ll, hll9⟩ : ∃ z, z = b.loops.length := ⟨_, rfl⟩
          rw [← hll9] at hlu9
          subst hlu9
          clear hll9
          have HBC6 : Hid (∀ w', Kept (fun _ => False) w6 w' → w'.cell? ⟨bg, at', none⟩ = some (.bool bit)) := fun w' hw => HBC.out w' ((HK5.out.trans HK6.out).trans hw)
          go_cut [140] from 61 to 215 (fun v140 wx => v140 = .bool false ∧ Hid (Kept (fun _ => False) w6 wx))
          case first =>
            as_aux_lemma =>
              cases bit with
              | true =>
                as_aux_lemma =>
                  have HHS : Hid (∀ W', Kept (fun _ => False) w6 W' → Calls Tryz.prog 26 #[.slice la ll lac, .int .i64 (at' : Int)] W' fun e w' => e = .returned (.bool true) ∧ w' = W') := fun W' hW' => by
                    have h9 := has_any _ b.loops (at' : Int) W' 0 (hW'.ownsRow (HK6.out.ownsRow (HK5.out.ownsRow (HKR.out.ownsRow HLU.out (fun _ _ f => f)) (fun _ _ f => f)) (fun _ _ f => f)) (fun _ _ f => f)) HLL.out
                    have h8 : decide ((at' : Int) ∈ b.loops) = true := by rw [HAT.out]; exact decide_eq_true (HLP.out HBIT.out.symm)
                    rw [h8] at h9
                    exact h9
                  refine wp_region_held_drew (S := fun w' => Kept (fun _ => False) w6 w') (by kernel_rfl) ((Kept.refl _ _).drew) (fun hHeld => ?_)
                  iterate 18
                    refine tkn (v := ?_) 0 rfl ?_ ?_; rotate_left 1
                    · intro w hSw; obtain ⟨⟨a0, a1, a2⟩, ⟨b0, b2, b3, b4, b5⟩, ⟨n0, n1, n2, n3⟩, y3, d1, d2, d3, d4, z0, z1⟩ := HSX.out w ((HK6.out.mono (fun _ _ f => f.elim)).step hSw (fun _ _ f => f.elim)); have e9 := HBC6.out w hSw; go_simp; try with_reducible rfl
                    try simp only [Act.put, tdy]
                  refine wpAnyH_ready (rs := [18]) (by kernel_rfl) (by simp) ?_
                  refine AllReadyH.cons rfl (fun K hK => ?_) AllReadyH.nil
                  go_simp
                  refine (HHS.out _ hHeld).mono ?_
                  rintro e w9 ⟨rfl, hw9⟩
                  have hw9' := hw9.symm
                  clear hw9
                  subst hw9'
                  refine hK.out _ _ hHeld (fun hHeld => ?_)
                  clear hK K
                  try simp only [Act.put, tdy]
                  iterate 2
                    refine tkn (v := ?_) 19 rfl ?_ ?_; rotate_left 1
                    · intro w hSw; obtain ⟨⟨a0, a1, a2⟩, ⟨b0, b2, b3, b4, b5⟩, ⟨n0, n1, n2, n3⟩, y3, d1, d2, d3, d4, z0, z1⟩ := HSX.out w ((HK6.out.mono (fun _ _ f => f.elim)).step hSw (fun _ _ f => f.elim)); have e9 := HBC6.out w hSw; go_simp; try with_reducible rfl
                    try simp only [Act.put, tdy]
                  refine wpAnyH_done (by kernel_rfl) ?_ _
                  have HKE := hid_of hHeld
                  clear hHeld
                  go_wp2_with fail
                  go_meet
                  exact ⟨rfl, HKE⟩
              | false =>
                as_aux_lemma =>
                  refine wp_region_held_drew (S := fun w' => Kept (fun _ => False) w6 w') (by kernel_rfl) ((Kept.refl _ _).drew) (fun hHeld => ?_)
                  iterate 8
                    refine tkn (v := ?_) 0 rfl ?_ ?_; rotate_left 1
                    · intro w hSw; obtain ⟨⟨a0, a1, a2⟩, ⟨b0, b2, b3, b4, b5⟩, ⟨n0, n1, n2, n3⟩, y3, d1, d2, d3, d4, z0, z1⟩ := HSX.out w ((HK6.out.mono (fun _ _ f => f.elim)).step hSw (fun _ _ f => f.elim)); have e9 := HBC6.out w hSw; go_simp; try with_reducible rfl
                    try simp only [Act.put, tdy]
                  iterate 10
                    refine tkm 8 rfl ?_
                    try simp only [Act.put, tdy]
                  refine wpAnyH_ready (rs := [18]) (by kernel_rfl) (by simp) ?_
                  refine AllReadyH.cons rfl (fun K hK => ?_) AllReadyH.nil
                  go_simp
                  refine hK.out _ _ (by assumption) (fun hHeld => ?_)
                  clear hK K
                  try simp only [Act.put, tdy]
                  iterate 1
                    refine tkm 19 rfl ?_
                    try simp only [Act.put, tdy]
                  iterate 1
                    refine tkn (v := ?_) 20 rfl ?_ ?_; rotate_left 1
                    · intro w hSw; obtain ⟨⟨a0, a1, a2⟩, ⟨b0, b2, b3, b4, b5⟩, ⟨n0, n1, n2, n3⟩, y3, d1, d2, d3, d4, z0, z1⟩ := HSX.out w ((HK6.out.mono (fun _ _ f => f.elim)).step hSw (fun _ _ f => f.elim)); have e9 := HBC6.out w hSw; go_simp; try with_reducible rfl
                    try simp only [Act.put, tdy]
                  refine wpAnyH_done (by kernel_rfl) ?_ _
                  have HKE := hid_of hHeld
                  clear hHeld
                  go_wp2_with fail
                  go_meet
                  exact ⟨rfl, HKE⟩
          case rest =>
            as_aux_lemma =>
              obtain ⟨rfl, HK7⟩ := hcut
              obtain ⟨w7, hw7⟩ : ∃ w, w = wc := ⟨_, rfl⟩
              subst hw7
              have HK57 := hid_of (HK6.out.trans HK7.out)
              have HF7 := hid_of (HFR.out.same (HK5.out.trans HK57.out))
              have hb7 := HBC.out w7 (HK5.out.trans HK57.out)
              obtain ⟨cur, hcur⟩ : ∃ cur, w7.heap[bg]? = some (.cells cur 4 (0, 0)) := by
                have h9 := (HK5.out.trans HK57.out).ownsRow HLB2.out (fun _ _ f => f)
                rcases h9.2 with ⟨e, _⟩ | ⟨g', cap', cur', e, _, hh, _⟩
                · simp at e
                · simp only [Value.slice.injEq, Option.some.injEq, Addr.mk.injEq] at e
                  obtain ⟨⟨rfl, _⟩, _⟩ := e
                  exact ⟨cur', hh⟩
              have nfz := frozen_block _ bg at' _ _ hcur
              obtain ⟨⟨a0, a1, a2⟩, ⟨b0, b2, b3, b4, b5⟩, ⟨n0, n1, n2, n3⟩, y3, d1, d2, d3, d4, z0, z1⟩ := HSX.out w7 (HK57.out.mono (fun _ _ f => f.elim))
              clear a0 a1 a2 b0 b2 b3 b4 b5 n0 n2 y3 d1 d2 d3 d4 z0 z1 hcur
              go_upto_region 20 with fail
              clear n1 n3 hb7 nfz
              obtain ⟨hfr8, hk78, _⟩ := HF7.out.mark (by rw [List.length_reverse]; exact HLB.out) at'
              generalize w7.setCell ⟨bg, at', none⟩ (.bool true) = w8 at *
              have HF8 := hid_of hfr8
              have HK58 : Hid (Kept (fun q => q = bg) w5 w8) := (HK57.out.mono (fun _ _ f => f.elim)).step hk78 (fun _ _ e => e)
              have HK38 : Hid (Kept (fun _ => False) w3 w8) := ((HKR.out.trans HK5.out).trans HK57.out).step hk78 (fun i hi e => by omega)
              clear hfr8 hk78 HF7 HK57 HK7 HK6 HBC6 HBC
              have hS9 := HWI.out.sees HBN.out
              rw [← HFX.out, ← HFCO.out, ← HFCE.out] at hS9
              have HS9 := hid_of hS9
              clear hS9
              obtain ⟨tot, htot⟩ : ∃ z, z = sumK p (cs.reverse ++ [⟨now.fn, now.at', now.high, now.been.set at' true⟩]) := ⟨_, rfl⟩
              have htot2 : tot = sumK p (now :: cs) := by
                rw [htot, sumK_app, sumK_rev]
                show sumK p cs + (1 + locOf p now.fn + now.high + 0) = 1 + locOf p now.fn + now.high + sumK p cs
                omega
              have HFC : Hid (∀ W', Kept (fun _ => False) w8 W' → Calls Tryz.prog 27 #[.agg #[.int .i64 mem, .slice dao nd dc, .slice (some ⟨pg, po, none⟩) nf fc], .slice (some ⟨lg, 0, none⟩) (k + 1) lq] W' fun e w' => e = .returned (.int .i64 tot) ∧ Kept (fun _ => False) W' w') := fun W' hW' => by
                rw [htot]
                have hrg := HWI.out.rng HBN.out
                exact fcells_any _ p W' B (HPG.out.kept ((HK3.out.trans HK38.out).trans hW') (fun _ _ f => f)) HO.out _ _ _ B3 (HF8.out.same hW') (fun c hc => by
                  rcases List.mem_append.1 hc with hc | hc
                  · exact hrg c (List.mem_cons_of_mem _ (List.mem_reverse.1 hc))
                  · simp at hc
                    subst hc
                    exact hrg now (List.mem_cons_self ..)) (by rw [List.length_append, List.length_reverse]; have := HK.out; simp; omega)
              have HT2 := hid_of htot2
              clear htot htot2
              go_cut [168] from 61 to 215 (fun v168 wx => v168 = .bool false ∧ Hid (Kept (fun _ => False) w8 wx))
              case first =>
                as_aux_lemma =>
                  by_cases hco : 0 ≤ fco
                  · have h9 := HS9.out.2.2.1 hco
                    have hcb : decide (0 ≤ fco) = true := by simpa using hco
                    have hcd : decide (fco ≤ (dn : Int)) = false := by simp; omega
                    clear h9
                    by_cases hce : 0 ≤ fce
                    · as_aux_lemma =>
                        have h9 := HS9.out.2.2.2 hce
                        rw [← HT2.out] at h9
                        have heb : decide (0 ≤ fce) = true := by simpa using hce
                        have hed : decide (fce < tot) = false := by simp; omega
                        clear h9
                        refine wp_region_held_drew (S := fun w' => Kept (fun _ => False) w8 w') (by kernel_rfl) ((Kept.refl _ _).drew) (fun hHeld => ?_)
                        iterate 14
                          refine tkn (v := ?_) 0 rfl ?_ ?_; rotate_left 1
                          · intro w hSw; obtain ⟨⟨a0, a1, a2⟩, ⟨b0, b2, b3, b4, b5⟩, ⟨n0, n1, n2, n3⟩, y3, d1, d2, d3, d4, z0, z1⟩ := HSX.out w (HK58.out.step hSw (fun _ _ f => f.elim)); go_simp; try with_reducible rfl
                          try simp only [Act.put, tdy]
                        iterate 2
                          refine tkn (v := ?_) 14 rfl ?_ ?_; rotate_left 1
                          · intro w hSw; obtain ⟨⟨a0, a1, a2⟩, ⟨b0, b2, b3, b4, b5⟩, ⟨n0, n1, n2, n3⟩, y3, d1, d2, d3, d4, z0, z1⟩ := HSX.out w (HK58.out.step hSw (fun _ _ f => f.elim)); go_simp; try with_reducible rfl
                          try simp only [Act.put, tdy]
                        iterate 2
                          refine tkn (v := ?_) 17 rfl ?_ ?_; rotate_left 1
                          · intro w hSw; obtain ⟨⟨a0, a1, a2⟩, ⟨b0, b2, b3, b4, b5⟩, ⟨n0, n1, n2, n3⟩, y3, d1, d2, d3, d4, z0, z1⟩ := HSX.out w (HK58.out.step hSw (fun _ _ f => f.elim)); go_simp; try with_reducible rfl
                          try simp only [Act.put, tdy]
                        refine wpAnyH_ready (rs := [16]) (by kernel_rfl) (by simp) ?_
                        refine AllReadyH.cons rfl (fun K hK => ?_) AllReadyH.nil
                        go_simp
                        refine (HFC.out _ hHeld).mono ?_
                        rintro e w9 ⟨rfl, hk9⟩
                        have hkk9 := hHeld.trans hk9
                        refine hK.out _ _ hkk9 (fun hHeld => ?_)
                        clear hK K
                        try simp only [Act.put, tdy]
                        iterate 3
                          refine tkn (v := ?_) 19 rfl ?_ ?_; rotate_left 1
                          · intro w hSw; obtain ⟨⟨a0, a1, a2⟩, ⟨b0, b2, b3, b4, b5⟩, ⟨n0, n1, n2, n3⟩, y3, d1, d2, d3, d4, z0, z1⟩ := HSX.out w (HK58.out.step hSw (fun _ _ f => f.elim)); go_simp; try with_reducible rfl
                          try simp only [Act.put, tdy]
                        refine wpAnyH_done (by kernel_rfl) ?_ _
                        have HKE := hid_of hHeld
                        clear hHeld
                        go_wp2_with fail
                        go_meet
                        exact ⟨rfl, HKE⟩
                    · as_aux_lemma =>
                        have heb : decide (0 ≤ fce) = false := by simpa using hce
                        refine wp_region_held_drew (S := fun w' => Kept (fun _ => False) w8 w') (by kernel_rfl) ((Kept.refl _ _).drew) (fun hHeld => ?_)
                        iterate 14
                          refine tkn (v := ?_) 0 rfl ?_ ?_; rotate_left 1
                          · intro w hSw; obtain ⟨⟨a0, a1, a2⟩, ⟨b0, b2, b3, b4, b5⟩, ⟨n0, n1, n2, n3⟩, y3, d1, d2, d3, d4, z0, z1⟩ := HSX.out w (HK58.out.step hSw (fun _ _ f => f.elim)); go_simp; try with_reducible rfl
                          try simp only [Act.put, tdy]
                        iterate 2
                          refine tkm 14 rfl ?_
                          try simp only [Act.put, tdy]
                        iterate 2
                          refine tkm 17 rfl ?_
                          try simp only [Act.put, tdy]
                        refine wpAnyH_ready (rs := [16]) (by kernel_rfl) (by simp) ?_
                        refine AllReadyH.cons rfl (fun K hK => ?_) AllReadyH.nil
                        go_simp
                        refine hK.out _ _ (by assumption) (fun hHeld => ?_)
                        clear hK K
                        try simp only [Act.put, tdy]
                        iterate 1
                          refine tkm 19 rfl ?_
                          try simp only [Act.put, tdy]
                        iterate 2
                          refine tkn (v := ?_) 20 rfl ?_ ?_; rotate_left 1
                          · intro w hSw; obtain ⟨⟨a0, a1, a2⟩, ⟨b0, b2, b3, b4, b5⟩, ⟨n0, n1, n2, n3⟩, y3, d1, d2, d3, d4, z0, z1⟩ := HSX.out w (HK58.out.step hSw (fun _ _ f => f.elim)); go_simp; try with_reducible rfl
                          try simp only [Act.put, tdy]
                        refine wpAnyH_done (by kernel_rfl) ?_ _
                        have HKE := hid_of hHeld
                        clear hHeld
                        go_wp2_with fail
                        go_meet
                        exact ⟨rfl, HKE⟩
                  · have hcb : decide (0 ≤ fco) = false := by simpa using hco
                    by_cases hce : 0 ≤ fce
                    · as_aux_lemma =>
                        have h9 := HS9.out.2.2.2 hce
                        rw [← HT2.out] at h9
                        have heb : decide (0 ≤ fce) = true := by simpa using hce
                        have hed : decide (fce < tot) = false := by simp; omega
                        clear h9
                        refine wp_region_held_drew (S := fun w' => Kept (fun _ => False) w8 w') (by kernel_rfl) ((Kept.refl _ _).drew) (fun hHeld => ?_)
                        iterate 4
                          refine tkn (v := ?_) 0 rfl ?_ ?_; rotate_left 1
                          · intro w hSw; obtain ⟨⟨a0, a1, a2⟩, ⟨b0, b2, b3, b4, b5⟩, ⟨n0, n1, n2, n3⟩, y3, d1, d2, d3, d4, z0, z1⟩ := HSX.out w (HK58.out.step hSw (fun _ _ f => f.elim)); go_simp; try with_reducible rfl
                          try simp only [Act.put, tdy]
                        iterate 4
                          refine tkm 4 rfl ?_
                          try simp only [Act.put, tdy]
                        iterate 6
                          refine tkn (v := ?_) 8 rfl ?_ ?_; rotate_left 1
                          · intro w hSw; obtain ⟨⟨a0, a1, a2⟩, ⟨b0, b2, b3, b4, b5⟩, ⟨n0, n1, n2, n3⟩, y3, d1, d2, d3, d4, z0, z1⟩ := HSX.out w (HK58.out.step hSw (fun _ _ f => f.elim)); go_simp; try with_reducible rfl
                          try simp only [Act.put, tdy]
                        iterate 2
                          refine tkn (v := ?_) 14 rfl ?_ ?_; rotate_left 1
                          · intro w hSw; obtain ⟨⟨a0, a1, a2⟩, ⟨b0, b2, b3, b4, b5⟩, ⟨n0, n1, n2, n3⟩, y3, d1, d2, d3, d4, z0, z1⟩ := HSX.out w (HK58.out.step hSw (fun _ _ f => f.elim)); go_simp; try with_reducible rfl
                          try simp only [Act.put, tdy]
                        iterate 2
                          refine tkn (v := ?_) 17 rfl ?_ ?_; rotate_left 1
                          · intro w hSw; obtain ⟨⟨a0, a1, a2⟩, ⟨b0, b2, b3, b4, b5⟩, ⟨n0, n1, n2, n3⟩, y3, d1, d2, d3, d4, z0, z1⟩ := HSX.out w (HK58.out.step hSw (fun _ _ f => f.elim)); go_simp; try with_reducible rfl
                          try simp only [Act.put, tdy]
                        refine wpAnyH_ready (rs := [16]) (by kernel_rfl) (by simp) ?_
                        refine AllReadyH.cons rfl (fun K hK => ?_) AllReadyH.nil
                        go_simp
                        refine (HFC.out _ hHeld).mono ?_
                        rintro e w9 ⟨rfl, hk9⟩
                        have hkk9 := hHeld.trans hk9
                        refine hK.out _ _ hkk9 (fun hHeld => ?_)
                        clear hK K
                        try simp only [Act.put, tdy]
                        iterate 3
                          refine tkn (v := ?_) 19 rfl ?_ ?_; rotate_left 1
                          · intro w hSw; obtain ⟨⟨a0, a1, a2⟩, ⟨b0, b2, b3, b4, b5⟩, ⟨n0, n1, n2, n3⟩, y3, d1, d2, d3, d4, z0, z1⟩ := HSX.out w (HK58.out.step hSw (fun _ _ f => f.elim)); go_simp; try with_reducible rfl
                          try simp only [Act.put, tdy]
                        refine wpAnyH_done (by kernel_rfl) ?_ _
                        have HKE := hid_of hHeld
                        clear hHeld
                        go_wp2_with fail
                        go_meet
                        exact ⟨rfl, HKE⟩
                    · as_aux_lemma =>
                        have heb : decide (0 ≤ fce) = false := by simpa using hce
                        refine wp_region_held_drew (S := fun w' => Kept (fun _ => False) w8 w') (by kernel_rfl) ((Kept.refl _ _).drew) (fun hHeld => ?_)
                        iterate 4
                          refine tkn (v := ?_) 0 rfl ?_ ?_; rotate_left 1
                          · intro w hSw; obtain ⟨⟨a0, a1, a2⟩, ⟨b0, b2, b3, b4, b5⟩, ⟨n0, n1, n2, n3⟩, y3, d1, d2, d3, d4, z0, z1⟩ := HSX.out w (HK58.out.step hSw (fun _ _ f => f.elim)); go_simp; try with_reducible rfl
                          try simp only [Act.put, tdy]
                        iterate 4
                          refine tkm 4 rfl ?_
                          try simp only [Act.put, tdy]
                        iterate 6
                          refine tkn (v := ?_) 8 rfl ?_ ?_; rotate_left 1
                          · intro w hSw; obtain ⟨⟨a0, a1, a2⟩, ⟨b0, b2, b3, b4, b5⟩, ⟨n0, n1, n2, n3⟩, y3, d1, d2, d3, d4, z0, z1⟩ := HSX.out w (HK58.out.step hSw (fun _ _ f => f.elim)); go_simp; try with_reducible rfl
                          try simp only [Act.put, tdy]
                        iterate 2
                          refine tkm 14 rfl ?_
                          try simp only [Act.put, tdy]
                        iterate 2
                          refine tkm 17 rfl ?_
                          try simp only [Act.put, tdy]
                        refine wpAnyH_ready (rs := [16]) (by kernel_rfl) (by simp) ?_
                        refine AllReadyH.cons rfl (fun K hK => ?_) AllReadyH.nil
                        go_simp
                        refine hK.out _ _ (by assumption) (fun hHeld => ?_)
                        clear hK K
                        try simp only [Act.put, tdy]
                        iterate 1
                          refine tkm 19 rfl ?_
                          try simp only [Act.put, tdy]
                        iterate 2
                          refine tkn (v := ?_) 20 rfl ?_ ?_; rotate_left 1
                          · intro w hSw; obtain ⟨⟨a0, a1, a2⟩, ⟨b0, b2, b3, b4, b5⟩, ⟨n0, n1, n2, n3⟩, y3, d1, d2, d3, d4, z0, z1⟩ := HSX.out w (HK58.out.step hSw (fun _ _ f => f.elim)); go_simp; try with_reducible rfl
                          try simp only [Act.put, tdy]
                        refine wpAnyH_done (by kernel_rfl) ?_ _
                        have HKE := hid_of hHeld
                        clear hHeld
                        go_wp2_with fail
                        go_meet
                        exact ⟨rfl, HKE⟩
              case rest =>
                as_aux_lemma =>
                  obtain ⟨rfl, HK9⟩ := hcut
                  obtain ⟨w9, hw9⟩ : ∃ w, w = wc := ⟨_, rfl⟩
                  subst hw9
                  clear HFC HS9 HT2
                  go_upto_if 171 with fail
                  go_cut [14] from 61 to 215 (fun v14 wx => ∃ pk : Int, v14 = .int .i64 pk ∧ -9223372036854775808 ≤ pk ∧ pk < 9223372036854775808 ∧ wx = w9)
                  case first =>
                    as_aux_lemma =>
                      by_cases hp : 0 < np
                      · have hpI : (0 : Int) < (np : Int) := by omega
                        have hpz : ¬ ((np : Int) = 0) := by omega
                        obtain ⟨m, hm⟩ : ∃ m, m = dn % np := ⟨_, rfl⟩
                        have hmp : m < np := by rw [hm]; exact Nat.mod_lt _ hp
                        have htm : Int.tmod (dn : Int) (np : Int) = (m : Int) := by rw [hm]; rfl
                        have hmw : IntKind.i64.wrap (m : Int) = (m : Int) := by simp [IntKind.wrap, IntKind.bits, IntKind.signed]; omega
                        have hmI : (m : Int) < (np : Int) := by omega
                        obtain ⟨ng, no, z, e9, hzc, hzr0, hzr1⟩ := mod_row (HU.out.same ((HK3.out.trans HK38.out).trans HK9.out)) HNP.out HNR.out hmp
                        subst e9
                        clear hm
                        go_wp2_with fail
                        go_meet
                        exact ⟨z, rfl, hzr0, hzr1, rfl⟩
                      · have hpI : ¬ ((0 : Int) < (np : Int)) := by omega
                        have hpb : decide ((0 : Int) < (np : Int)) = false := by simp; omega
                        go_wp2_with fail
                        go_meet
                        exact ⟨0, rfl, by omega, by omega, rfl⟩
                  case rest =>
                    as_aux_lemma =>
                      obtain ⟨pk, rfl, hpk0, hpk1, hwc⟩ := hcut
                      have hwc2 := hwc.symm
                      clear hwc
                      subst hwc2
                      obtain ⟨w10, hw10⟩ : ∃ W, W = w9.alloc (.cells #[.int .i64 xo, .int .i64 xa] 64) := ⟨_, rfl⟩
                      obtain ⟨gi, hgi⟩ : ∃ z, z = w9.heap.size := ⟨_, rfl⟩
                      have hk10 : Kept (fun _ => False) w9 w10 := by rw [hw10]; exact (Kept.refl _ _).alloc _
                      have hx10 : w10.heap[gi]? = some (.cells #[.int .i64 xo, .int .i64 xa] 64 (0, 0)) := by rw [hw10, hgi]; exact heap_alloc_new w9 _
                      obtain ⟨⟨a0, a1, a2⟩, ⟨b0, b2, b3, b4, b5⟩, ⟨n0, n1, n2, n3⟩, y3, d1, d2, d3, d4, z0, z1⟩ := HSX.out w9 (HK58.out.step HK9.out (fun _ _ f => f.elim))
                      clear b0 b2 b3 b4 b5 n0 n2 n3 y3 d1 d2 d3 d4
                      have i0 := cell_block _ _ 0 _ _ _ hx10
                      have i1 := cell_block _ _ 1 _ _ _ hx10
                      have a0' := hk10.cell a0 (fun f => f)
                      have a1' := hk10.cell a1 (fun f => f)
                      have a2' := hk10.cell a2 (fun f => f)
                      have HK810 := hid_of (HK9.out.trans hk10)
                      have HK310 := hid_of ((HK38.out.trans HK9.out).trans hk10)
                      clear hk10 hx10 a0 a1 a2
                      go_upto_region 26 with fail
                      rw [← hw10, ← hgi]
                      clear hw10 hgi z0 z1 n1
                      by_cases h1 : xo = 1
                      · subst h1
                        clear a0' a1' a2' i1
                        go_wp2_with fail
                        refine (head_any w10).mono ?_
                        rintro e w12 ⟨rfl, hk12⟩
                        have HK12 := hid_of (((HKW.out.trans HK3.out).trans HK310.out).trans hk12)
                        clear hk12
                        go_wp2
                        go_ret
                        exact ⟨rfl, HK12.out⟩
                      · by_cases h2 : xo = 2
                        · subst h2
                          clear a0' a1' a2' i1
                          go_wp2_with fail
                          refine (head_any w10).mono ?_
                          rintro e w12 ⟨rfl, hk12⟩
                          have HK12 := hid_of (((HKW.out.trans HK3.out).trans HK310.out).trans hk12)
                          clear hk12
                          go_wp2
                          go_ret
                          exact ⟨rfl, HK12.out⟩
                        · by_cases h3 : xo = 18 ∧ k = 0
                          · obtain ⟨rfl, rfl⟩ := h3
                            clear a0' a1' a2' i1
                            go_wp2_with fail
                            refine (head_any w10).mono ?_
                            rintro e w12 ⟨rfl, hk12⟩
                            have HK12 := hid_of (((HKW.out.trans HK3.out).trans HK310.out).trans hk12)
                            clear hk12
                            go_wp2
                            go_ret
                            exact ⟨rfl, HK12.out⟩
                          · have e1 : (xo == 1) = false := by simpa using h1
                            have e2 : (xo == 2) = false := by simpa using h2
                            go_cut [202] from 61 to 215 (fun v202 wx => v202 = .bool false ∧ wx = w10)
                            case first =>
                              as_aux_lemma =>
                                by_cases h18 : xo = 18
                                · have e3 : (xo == 18) = true := by simpa using h18
                                  have e4 : (((k + 1 : Nat) : Int) == 1) = false := by
                                    have : k ≠ 0 := fun e => h3 ⟨h18, e⟩
                                    simp; omega
                                  have e5 : ¬ ((((k + 1 : Nat) : Int)) = 1) := by simpa using e4
                                  have e6 : ((k : Int) + 1 == 1) = false := by simpa using e4
                                  clear h3 h18 h1 h2 a0' a1' a2' i1
                                  go_wp2_with fail
                                  go_meet
                                  first | exact ⟨rfl, rfl⟩ | exact ⟨by rw [e6], rfl⟩
                                · have e3 : (xo == 18) = false := by simpa using h18
                                  clear h3 h1 h2 a0' a1' a2' i1
                                  go_wp2_with fail
                                  go_meet
                                  exact ⟨rfl, rfl⟩
                            case rest =>
                              as_aux_lemma =>
                                obtain ⟨rfl, hwc⟩ := hcut
                                have hwc2 := hwc.symm
                                clear hwc
                                subst hwc2
                                have hWA := walked_any _ p w10 B (HPG.out.kept (HK3.out.trans HK310.out) (fun _ _ f => f)) (Nat.le_trans HBW.out (HK3.out.trans HK310.out).size) HO.out HBN.out (.slice (some ⟨lg, 0, none⟩) (k + 1) lq) cs now (dn : Int) HWI.out bv _ B3 (by have h9 := HF8.out.same HK810.out; rw [HAT.out] at h9; exact h9) HLB.out (by rw [HB3.out]; exact HK310.out.size) (by rw [← HK.out]; exact hk2) HPL.out (by rw [← HXO.out]; exact h1) (by rw [← HXO.out]; exact h2) (fun e ec => h3 ⟨by rw [HXO.out]; exact e, by rw [HK.out, ec]; rfl⟩) pk hpk0 hpk1
                                rw [← HXO.out, ← HXA.out] at hWA
                                have HWA := hid_of hWA
                                clear hWA h3 h1 h2 e1 e2
                                go_wp2_with fail
                                refine HWA.out.mono ?_
                                rintro e w11 ⟨hk11, v', cs', now', bv', bn', rfl, hf', hlb', hwi', hcl'⟩
                                obtain ⟨lg', lq', e1⟩ := frs_some hf' (by simp)
                                simp only [List.length_append, List.length_reverse, List.length_singleton] at e1
                                obtain ⟨k', hk'⟩ : ∃ z, z = cs'.length := ⟨_, rfl⟩
                                rw [← hk'] at e1
                                subst e1
                                have HKK := hid_of hk'
                                have HF11 := hid_of hf'
                                have HLB11 := hid_of hlb'
                                have HWI11 : Hid (WI p bs C K cs' now' ((dn + 1 : Nat) : Int)) := by
                                  have e : ((dn + 1 : Nat) : Int) = (dn : Int) + 1 := by omega
                                  unfold Hid
                                  rw [e]
                                  exact hwi'
                                have HK311 := hid_of (HK310.out.trans hk11)
                                have hnil := eqNil59 w11 (some ⟨lg', 0, none⟩) (k' + 1) lq' 0 0
                                simp only [Option.isNone_some] at hnil
                                clear hf' hlb' hwi' hk' hcl' hk11 HWA a0' a1' a2' i0 i1 HF8 HK38 HK58 HK9 HK810 HK310
                                by_cases hq : 200 < k' + 1
                                · have hqI : (200 : Int) < ((k' + 1 : Nat) : Int) := by omega
                                  go_wp2_with fail
                                  refine (head_any w11).mono ?_
                                  rintro e w12 ⟨rfl, hk12⟩
                                  have HK12 := hid_of (((HKW.out.trans HK3.out).trans HK311.out).trans hk12)
                                  clear hk12
                                  go_wp2
                                  go_ret
                                  exact ⟨rfl, HK12.out⟩
                                · have hqI : ¬ ((200 : Int) < ((k' + 1 : Nat) : Int)) := by omega
                                  go_wp2
                                  go_roundw
                                  case rel => exact ⟨lg', lq', k', dn + 1, cs', now', bv', bn', rfl, by go_num, by omega, by omega, HKK, HLB11, HF11, HWI11, HK311⟩
                                  case measure => simp [intOf]; omega
        · have hltI : ¬ ((dn : Int) < (j : Int)) := by omega
          go_wp2_with fail
          refine (head_any wr).mono ?_
          rintro e w9 ⟨rfl, hk9⟩
          have HK9 := hid_of (((HKW.out.trans HK3.out).trans HKR.out).trans hk9)
          clear hk9
          go_wp2
          go_ret
          exact ⟨rfl, HK9.out⟩
end Go.Proofs.YtcaadgcfceommaaGreat

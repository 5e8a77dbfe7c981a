import Derived.Test.YtcaadgcfceommaaGreatTLl
import Derived.Test.YtcaadgcfceommaaGreatTRa
namespace Go.Proofs.YtcaadgcfceommaaGreat
open Go.RowKit
set_option linter.unusedVariables false
set_option linter.unusedSimpArgs false
set_option maxRecDepth 100000
set_option maxHeartbeats 4000000 in
theorem rsys_out (n : Int) (w : World) (h : ¬ (0 ≤ n ∧ n < 5)) (hn0 : -9223372036854775808 ≤ n) (hn1 : n < 9223372036854775808) : Calls Tryz.prog 54 #[.int .i64 n] w fun e w' => e = .returned (.tuple #[.agg Sh.none.cells.toArray, .bool false]) ∧ KF w w' := by
 have HX := hid_of (heap_alloc_new w (.cells Sh.none.cells.toArray 102))
 have HK := hid_of ((Kept.refl (fun _ => False) w).alloc (.cells Sh.none.cells.toArray 102))
 have hd : (decide (n < 0) || decide ((5 : Int) ≤ n)) = true := by
  rw [Bool.or_eq_true, decide_eq_true_iff, decide_eq_true_iff]
  omega
 clear h
 go_enter Tryz.func54, Tryz.ntmps54
 go_wp2
 all_goals
  refine bodyPost_ret (v := .tuple #[.agg Sh.none.cells.toArray, .bool false]) ?_ rfl ⟨rfl, HK.out⟩
  exact results_row_tmp (by rfl) _ _ ⟨w.heap.size, 0, none⟩ _ _ (by rfl) (by rfl) (run_loadVar_row _ w.heap.size 102 102 _ (0, 0) _ HX.out Tryz.underlying102 rfl size27)
set_option maxHeartbeats 4000000 in
theorem rsys_0 (w : World) : Calls Tryz.prog 54 #[.int .i64 0] w fun e w' => e = .returned (.tuple #[.agg (sysL.getD 0 Sh.none).cells.toArray, .bool true]) ∧ KF w w' := by
 have hX := heap_alloc2_old w (.cells (sysL.getD 0 Sh.none).cells.toArray 102) (.cells (sysL.getD 0 Sh.none).cells.toArray 102)
 have hK := ((Kept.refl (fun _ => False) w).alloc (.cells (sysL.getD 0 Sh.none).cells.toArray 102)).alloc (.cells (sysL.getD 0 Sh.none).cells.toArray 102)
 have HX := hid_of hX
 have HK := hid_of hK
 clear hX hK
 go_enter Tryz.func54, Tryz.ntmps54
 go_wp2_with fail
 refine (word_is _ 0 (sysL.getD 0 Sh.none).nm _ (by decide +kernel) (by decide) (by kernel_rfl)).mono ?_
 rintro e w1 ⟨rfl, rfl⟩
 rw [show (sysL.getD 0 Sh.none).nm = _ from rfl]
 go_wp2
 refine bodyPost_ret (v := .tuple #[.agg (sysL.getD 0 Sh.none).cells.toArray, .bool true]) ?_ rfl ⟨rfl, HK.out⟩
 exact results_row_tmp (by rfl) _ _ ⟨w.heap.size, 0, none⟩ _ _ (by rfl) (by rfl) (run_loadVar_row _ w.heap.size 102 102 _ (0, 0) _ HX.out Tryz.underlying102 rfl size27)
set_option maxHeartbeats 4000000 in
theorem rsys_1 (w : World) : Calls Tryz.prog 54 #[.int .i64 1] w fun e w' => e = .returned (.tuple #[.agg (sysL.getD 1 Sh.none).cells.toArray, .bool true]) ∧ KF w w' := by
 have hX := heap_alloc2_old w (.cells (sysL.getD 1 Sh.none).cells.toArray 102) (.cells (sysL.getD 1 Sh.none).cells.toArray 102)
 have hK := ((Kept.refl (fun _ => False) w).alloc (.cells (sysL.getD 1 Sh.none).cells.toArray 102)).alloc (.cells (sysL.getD 1 Sh.none).cells.toArray 102)
 have HX := hid_of hX
 have HK := hid_of hK
 clear hX hK
 go_enter Tryz.func54, Tryz.ntmps54
 go_wp2_with fail
 refine (word_is _ 1 (sysL.getD 1 Sh.none).nm _ (by decide +kernel) (by decide) (by kernel_rfl)).mono ?_
 rintro e w1 ⟨rfl, rfl⟩
 rw [show (sysL.getD 1 Sh.none).nm = _ from rfl]
 go_wp2
 refine bodyPost_ret (v := .tuple #[.agg (sysL.getD 1 Sh.none).cells.toArray, .bool true]) ?_ rfl ⟨rfl, HK.out⟩
 exact results_row_tmp (by rfl) _ _ ⟨w.heap.size, 0, none⟩ _ _ (by rfl) (by rfl) (run_loadVar_row _ w.heap.size 102 102 _ (0, 0) _ HX.out Tryz.underlying102 rfl size27)
set_option maxHeartbeats 4000000 in
theorem rsys_2 (w : World) : Calls Tryz.prog 54 #[.int .i64 2] w fun e w' => e = .returned (.tuple #[.agg (sysL.getD 2 Sh.none).cells.toArray, .bool true]) ∧ KF w w' := by
 have hX := heap_alloc2_old w (.cells (sysL.getD 2 Sh.none).cells.toArray 102) (.cells (sysL.getD 2 Sh.none).cells.toArray 102)
 have hK := ((Kept.refl (fun _ => False) w).alloc (.cells (sysL.getD 2 Sh.none).cells.toArray 102)).alloc (.cells (sysL.getD 2 Sh.none).cells.toArray 102)
 have HX := hid_of hX
 have HK := hid_of hK
 clear hX hK
 go_enter Tryz.func54, Tryz.ntmps54
 go_wp2_with fail
 refine (word_is _ 2 (sysL.getD 2 Sh.none).nm _ (by decide +kernel) (by decide) (by kernel_rfl)).mono ?_
 rintro e w1 ⟨rfl, rfl⟩
 rw [show (sysL.getD 2 Sh.none).nm = _ from rfl]
 go_wp2
 refine bodyPost_ret (v := .tuple #[.agg (sysL.getD 2 Sh.none).cells.toArray, .bool true]) ?_ rfl ⟨rfl, HK.out⟩
 exact results_row_tmp (by rfl) _ _ ⟨w.heap.size, 0, none⟩ _ _ (by rfl) (by rfl) (run_loadVar_row _ w.heap.size 102 102 _ (0, 0) _ HX.out Tryz.underlying102 rfl size27)
set_option maxHeartbeats 4000000 in
theorem rsys_3 (w : World) : Calls Tryz.prog 54 #[.int .i64 3] w fun e w' => e = .returned (.tuple #[.agg (sysL.getD 3 Sh.none).cells.toArray, .bool true]) ∧ KF w w' := by
 have hX := heap_alloc2_old w (.cells (sysL.getD 3 Sh.none).cells.toArray 102) (.cells (sysL.getD 3 Sh.none).cells.toArray 102)
 have hK := ((Kept.refl (fun _ => False) w).alloc (.cells (sysL.getD 3 Sh.none).cells.toArray 102)).alloc (.cells (sysL.getD 3 Sh.none).cells.toArray 102)
 have HX := hid_of hX
 have HK := hid_of hK
 clear hX hK
 go_enter Tryz.func54, Tryz.ntmps54
 go_wp2_with fail
 refine (word_is _ 3 (sysL.getD 3 Sh.none).nm _ (by decide +kernel) (by decide) (by kernel_rfl)).mono ?_
 rintro e w1 ⟨rfl, rfl⟩
 rw [show (sysL.getD 3 Sh.none).nm = _ from rfl]
 go_wp2
 refine bodyPost_ret (v := .tuple #[.agg (sysL.getD 3 Sh.none).cells.toArray, .bool true]) ?_ rfl ⟨rfl, HK.out⟩
 exact results_row_tmp (by rfl) _ _ ⟨w.heap.size, 0, none⟩ _ _ (by rfl) (by rfl) (run_loadVar_row _ w.heap.size 102 102 _ (0, 0) _ HX.out Tryz.underlying102 rfl size27)
set_option maxHeartbeats 4000000 in
theorem rsys_4 (w : World) : Calls Tryz.prog 54 #[.int .i64 4] w fun e w' => e = .returned (.tuple #[.agg (sysL.getD 4 Sh.none).cells.toArray, .bool true]) ∧ KF w w' := by
 have hX := heap_alloc2_old w (.cells (sysL.getD 4 Sh.none).cells.toArray 102) (.cells (sysL.getD 4 Sh.none).cells.toArray 102)
 have hK := ((Kept.refl (fun _ => False) w).alloc (.cells (sysL.getD 4 Sh.none).cells.toArray 102)).alloc (.cells (sysL.getD 4 Sh.none).cells.toArray 102)
 have HX := hid_of hX
 have HK := hid_of hK
 clear hX hK
 go_enter Tryz.func54, Tryz.ntmps54
 go_wp2_with fail
 refine (word_is _ 4 (sysL.getD 4 Sh.none).nm _ (by decide +kernel) (by decide) (by kernel_rfl)).mono ?_
 rintro e w1 ⟨rfl, rfl⟩
 rw [show (sysL.getD 4 Sh.none).nm = _ from rfl]
 go_wp2
 refine bodyPost_ret (v := .tuple #[.agg (sysL.getD 4 Sh.none).cells.toArray, .bool true]) ?_ rfl ⟨rfl, HK.out⟩
 exact results_row_tmp (by rfl) _ _ ⟨w.heap.size, 0, none⟩ _ _ (by rfl) (by rfl) (run_loadVar_row _ w.heap.size 102 102 _ (0, 0) _ HX.out Tryz.underlying102 rfl size27)
theorem rsys_all (w : World) : ∀ k : Nat, k < 5 → Calls Tryz.prog 54 #[.int .i64 (k : Int)] w fun e w' => e = .returned (.tuple #[.agg (sysL.getD k Sh.none).cells.toArray, .bool true]) ∧ KF w w'
 | 0, _ => rsys_0 w
 | 1, _ => rsys_1 w
 | 2, _ => rsys_2 w
 | 3, _ => rsys_3 w
 | 4, _ => rsys_4 w
 | k + 5, h => absurd h (by omega)
theorem sysof_ref (n : Int) (w : World) (hn0 : -9223372036854775808 ≤ n) (hn1 : n < 9223372036854775808) :
  Calls Tryz.prog 54 #[.int .i64 n] w fun e w' => e = .returned (.tuple #[.agg (rowS sysL n).cells.toArray, .bool (isRow sysL n)]) ∧ KF w w' := by
 by_cases h : 0 ≤ n ∧ n < 5
 ·obtain ⟨k, rfl⟩ : ∃ k : Nat, n = k := ⟨n.toNat, by omega⟩
  have hk : k < 5 := by omega
  rw [(row_at (L := sysL) hk).1, (row_at (L := sysL) hk).2]
  exact rsys_all w k hk
 ·rw [show rowS sysL n = Sh.none from if_neg h, show isRow sysL n = false from decide_eq_false h]
  exact rsys_out n w h hn0 hn1
def rtakesD (p : PG) (sf sa : Int) : Int × Int := match instrD p sf sa with
 | none => (0, 0)
 | some (x, f) => if x.op = 19 then ((rowS sysL x.a).t, 1) else tkgv p f x
set_option maxHeartbeats 8000000 in
theorem rtakes_any (v : Value) (p : PG) (w : World) (B : Nat) (h : PgIs w B v p) (hB : B ≤ w.heap.size) (ho : p.Ok) (sf sa : Int) :
  Calls Tryz.prog 21 #[v, .agg #[.int .i64 sf, .int .i64 sa]] w fun e w' => e = .returned (.tuple #[.int .i64 (rtakesD p sf sa).1, .int .i64 (rtakesD p sf sa).2]) ∧ KF w w' := by
 have hpg := h
 obtain ⟨dv, fv, rfl, hd, hdl, hf⟩ := h
 obtain ⟨dao, dc, rfl⟩ := hd.shape
 obtain ⟨fao, fc, rfl⟩ := hf.shape
 obtain ⟨nf, hnf⟩ := nmd (p.fns.length)
 obtain ⟨nd, hnd⟩ := nmd (p.data.length)
 obtain ⟨mem, hmem⟩ := nmd (p.mem)
 rw [← hnf, ← hnd, ← hmem] at hpg ⊢
 rw [← hnf] at hf
 obtain ⟨s, hs⟩ := nmd (w.heap.size)
 obtain ⟨W, hW⟩ := nmd ((w.alloc (.cells #[.int .i64 mem, .slice dao nd dc, .slice fao nf fc] 25)).alloc (.cells #[.int .i64 sf, .int .i64 sa] 36))
 obtain ⟨k1, x1, x2⟩ := allocs2 _ _ _ _ _ _ hW
 rw [← hs] at x1 x2
 have HKW := hid_of k1
 have HB1 := hid_of x1
 have HB2 := hid_of x2
 have HO := hid_of ho
 have HF := hid_of hf
 have HNF := hid_of hnf
 have HIN := hid_of (rat_any _ p W B (hpg.kept k1 (fun _ _ f => f)) (Nat.le_trans hB k1.size) sf sa)
 obtain ⟨c0, c1, c2, _⟩ := look3 x1
 obtain ⟨e0, e1, _⟩ := look2 x2
 clear x1 x2 k1 hd hdl hf hnf hnd hmem hpg ho hB
 go_enter Tryz.func21, Tryz.ntmps21
 go_upto_region 1 with fail
 rw [← hW, ← hs]
 clear hW hs
 go_wp2_with fail
 refine HIN.out.mono ?_
 rintro e w2 ⟨hk2, hm⟩
 clear HIN c0 c1 c2 e0 e1
 cases hi : instrD p sf sa with
 | none =>
  rw [hi] at hm
  subst hm
  have HT : Hid (rtakesD p sf sa = (0, 0)) := by unfold Hid rtakesD; rw [hi]
  have HKF := hid_of ((HKW.out.trans hk2).alloc (.cells #[.int .i64 0, .int .i64 0] 64))
  clear hk2 hi
  go_wp2
  refine bodyPost_ret (results_tmp2 (by rfl) _ _ _) rfl ⟨?_, HKF.out⟩
  rw [HT.out]
  rfl
 | some xf =>
  obtain ⟨x, f⟩ := xf
  rw [hi] at hm
  have hm : e = .returned (.tuple #[.agg #[.int .i64 x.op, .int .i64 x.a], .bool true]) := hm
  subst hm
  obtain ⟨hm1, hm2, hm3, hm4, hm5, hm6, hm7, hm8⟩ := instrD_mem hi
  have HT : Hid (rtakesD p sf sa = if x.op = 19 then ((rowS sysL x.a).t, 1) else tkgv p f x) := by unfold Hid rtakesD; rw [hi]
  obtain ⟨i, hi2⟩ : ∃ i : Nat, sf = (i : Int) := ⟨sf.toNat, by omega⟩
  subst hi2
  rw [Int.toNat_natCast] at hm5
  have hiI : (i : Int) < (nf : Int) := by rw [HNF.out]; exact hm4
  have hxo := (HO.out.fns f hm1).code x hm2
  have HOP := hid_of hxo.1
  have HIA := hid_of hxo.2
  obtain ⟨op, ia⟩ := x
  have hkA := (HKW.out.trans hk2).alloc (.cells #[.int .i64 op, .int .i64 ia] 64)
  have hbA := heap_alloc_new w2 (.cells #[.int .i64 op, .int .i64 ia] 64)
  have HC1 := hid_of (box_kept (hk2.alloc (.cells #[.int .i64 op, .int .i64 ia] 64)) HB1.out id)
  have HC2 := hid_of (box_kept (hk2.alloc (.cells #[.int .i64 op, .int .i64 ia] 64)) HB2.out id)
  have HKA := hid_of hkA
  have HBA := hid_of hbA
  have HM5 := hid_of hm5
  simp only at HT HOP HIA
  clear hi hm1 hm2 hm3 hm4 hm5 hm6 hm7 hm8 hkA hbA hk2 hxo
  go_upto_region 2 with fail
  generalize w2.alloc (.cells #[.int .i64 op, .int .i64 ia] 64) = w3 at *
  generalize w2.heap.size = gx at *
  obtain ⟨q0, q1, _⟩ := look2 HBA.out
  obtain ⟨_, _, p2, _⟩ := look3 HC1.out
  obtain ⟨s0, _, _⟩ := look2 HC2.out
  by_cases h17 : op = 17
  ·subst h17
   rw [if_neg (by decide)] at HT
   by_cases h1 : ia < 0
   ·have HTZ : Hid (rtakesD p (i : Int) sa = (0, 0)) := by unfold Hid; rw [HT.out]; unfold tkgv; rw [if_pos rfl, if_neg (by simp only; omega)]
    go_wp2
    refine bodyPost_ret (results_tmp2 (by rfl) _ _ _) rfl ⟨?_, HKA.out⟩
    rw [HTZ.out]
    rfl
   ·by_cases h2 : (nf : Int) ≤ ia
    ·have HTZ : Hid (rtakesD p (i : Int) sa = (0, 0)) := by unfold Hid; rw [HT.out]; unfold tkgv; rw [if_pos rfl, if_neg (by simp only; rw [← HNF.out]; omega)]
     go_wp2
     refine bodyPost_ret (results_tmp2 (by rfl) _ _ _) rfl ⟨?_, HKA.out⟩
     rw [HTZ.out]
     rfl
    ·obtain ⟨j, hj⟩ : ∃ j : Nat, ia = (j : Int) := ⟨ia.toNat, by omega⟩
     subst hj
     have hjI : (j : Int) < (nf : Int) := by omega
     obtain ⟨gf, o, g, hao, hgB, hff, hfa⟩ := HF.out.at (i := j) (by rw [← HNF.out]; omega)
     subst hao
     obtain ⟨cao, cc, z0, z1, z2, z3, hri, hcl⟩ := fn_read hfa
     have HTZ : Hid (rtakesD p (i : Int) sa = (g.a, g.r)) := by unfold Hid; rw [HT.out]; unfold tkgv; rw [if_pos rfl, if_pos (by simp only; rw [← HNF.out]; omega)]; simp only [Int.toNat_natCast, hff]
     have y0 := HKA.out.cell z0 id
     have y2 := HKA.out.cell z2 id
     generalize g.a = ga at *
     generalize g.r = gr at *
     clear z0 z1 z2 z3 hri hcl hfa hff hgB
     go_upto_region 8 with fail
     go_quiet (fail)
     have HKF := hid_of (kept_drewN HKA.out nq)
     go_wp2
     refine bodyPost_ret (results_tmp2 (by rfl) _ _ _) rfl ⟨?_, HKF.out⟩
     rw [HTZ.out]
     rfl
  ·have p17 : (op == 17) = false := by simp; exact h17
   by_cases h18 : op = 18
   ·subst h18
    rw [if_neg (by decide)] at HT
    obtain ⟨gf, o, g, hao, hgB, hff, hfa⟩ := HF.out.at (i := i) (by rw [← HNF.out]; omega)
    have : g = f := by have h := HM5.out; rw [h] at hff; exact (Option.some.inj hff).symm
    subst this
    subst hao
    obtain ⟨cao, cc, z0, z1, z2, z3, hri, hcl⟩ := fn_read hfa
    have HTZ : Hid (rtakesD p (i : Int) sa = (g.r, 0)) := by unfold Hid; rw [HT.out]; unfold tkgv; rw [if_neg (show ¬ (18 : Int) = 17 by decide), if_pos rfl]
    have y2 := HKA.out.cell z2 id
    generalize g.r = gr at *
    clear z0 z1 z2 z3 hri hcl hfa hff hgB h17
    go_wp2
    refine bodyPost_ret (results_tmp2 (by rfl) _ _ _) rfl ⟨?_, HKA.out⟩
    rw [HTZ.out]
    rfl
   ·have p18 : (op == 18) = false := by simp; exact h18
    by_cases h19 : op = 19
    ·subst h19
     rw [if_pos rfl] at HT
     have HSY := hid_of (sysof_ref ia w3 HIA.out.1 HIA.out.2)
     generalize rowS sysL ia = r at *
     obtain ⟨rn, ro, rt, rg⟩ := r
     generalize isRow sysL ia = b at *
     unfold Sh.cells at HSY
     clear h17 h18
     go_wp2_with fail
     refine HSY.out.mono ?_
     rintro e w4 ⟨rfl, hk4⟩
     have HKF := hid_of ((HKA.out.trans hk4).alloc (.cells #[.string rn, .int .i64 ro, .int .i64 rt, .int .i64 rg] 102))
     have t2 := cell_block _ _ 2 _ _ _ (heap_alloc_new w4 (.cells #[.string rn, .int .i64 ro, .int .i64 rt, .int .i64 rg] 102))
     clear hk4 HSY q0 q1 p2 s0
     go_wp2
     refine bodyPost_ret (results_tmp2 (by rfl) _ _ _) rfl ⟨?_, HKF.out⟩
     rw [HT.out]
     rfl
    ·have p19 : (op == 19) = false := by simp; exact h19
     rw [if_neg h19] at HT
     have HTZ : Hid (rtakesD p (i : Int) sa = ((rowS insL op).t, (rowS insL op).g)) := by unfold Hid; rw [HT.out]; unfold tkgv; rw [if_neg h17, if_neg h18, if_neg h19]
     have HOF := hid_of (of_ref op w3 HOP.out.1 HOP.out.2)
     have HZ : Hid (isRow insL op = false → (rowS insL op).t = 0 ∧ (rowS insL op).g = 0) := fun hb => by
      have hb2 := of_decide_eq_false hb
      unfold rowS
      rw [if_neg hb2]
      exact ⟨rfl, rfl⟩
     generalize rowS insL op = r at *
     obtain ⟨rn, ro, rt, rg⟩ := r
     generalize isRow insL op = b at *
     unfold Sh.cells at HOF
     simp only at HTZ HZ
     clear h17 h18 h19 HT
     go_wp2_with fail
     refine HOF.out.mono ?_
     rintro e w4 ⟨rfl, hk4⟩
     have HKF := hid_of ((HKA.out.trans hk4).alloc (.cells #[.string rn, .int .i64 ro, .int .i64 rt, .int .i64 rg] 102))
     have hbN := heap_alloc_new w4 (.cells #[.string rn, .int .i64 ro, .int .i64 rt, .int .i64 rg] 102)
     have t2 := cell_block _ _ 2 _ _ _ hbN
     have t3 := cell_block _ _ 3 _ _ _ hbN
     clear hk4 HOF q0 q1 p2 s0 hbN
     cases b with
     | false =>
      go_wp2
      refine bodyPost_ret (results_tmp2 (by rfl) _ _ _) rfl ⟨?_, HKF.out⟩
      obtain ⟨hz1, hz2⟩ := HZ.out (by trivial)
      rw [HTZ.out, hz1, hz2]
      rfl
     | true =>
      clear HZ
      go_upto_region 17 with fail
      go_quiet (fail)
      have HKF2 := hid_of (kept_drewN HKF.out nq)
      go_wp2
      refine bodyPost_ret (results_tmp2 (by rfl) _ _ _) rfl ⟨?_, HKF2.out⟩
      rw [HTZ.out]
      rfl
end Go.Proofs.YtcaadgcfceommaaGreat

import Derived.Test.YtcaadgcfceommaaGreatTLg
namespace Go.Proofs.YtcaadgcfceommaaGreat
open Go.RowKit
set_option linter.unusedVariables false
set_option linter.unusedSimpArgs false
set_option maxRecDepth 100000
theorem results_rowt {P : Program} {fn : Func} {p r : Tmp} {ty : TypeId} (h : fn.results = #[.cell p ty, .tmp r]) (tmps : Array Value) (w : World) (g : Nat) (t : TypeId) (cs : Array Value) (fr : Nat × Nat) (d : TypeDesc)
  (hp : tmps.getD p undef = .pointer (some ⟨g, 0, none⟩)) (hg : w.heap[g]? = some (.cells cs t fr)) (hu : P.underlying ty = some d) (hd : (match d with | .struct _ | .array _ _ => true | _ => false) = true) (hi : (P.info? ty).map (·.size) = some cs.size) :
  (results fn tmps).run P w = .ok (.tuple #[.agg cs, tmps.getD r undef]) w := by
 have hp' : tmps[p]?.getD undef = .pointer (some ⟨g, 0, none⟩) := by simpa using hp
 simp [results, h, hp', asAddr, run_loadVar_row w g t ty cs fr d hg hu hd hi]
def AtR (p : PG) (sf sa : Int) (w : World) (e : Ending) (w' : World) : Prop := KF w w' ∧
 match instrD p sf sa with
 | none => e = .returned (.tuple #[.agg #[.int .i64 0, .int .i64 0], .bool false])
 | some (x, _) => e = .returned (.tuple #[.agg #[.int .i64 x.op, .int .i64 x.a], .bool true])
set_option maxHeartbeats 8000000 in
theorem rat_any (v : Value) (p : PG) (w : World) (B : Nat) (h : PgIs w B v p) (hB : B ≤ w.heap.size) (sf sa : Int) :
  Calls Tryz.prog 51 #[v, .agg #[.int .i64 sf, .int .i64 sa]] w (AtR p sf sa w) := by
 obtain ⟨dv, fv, rfl, hd, hdl, hf⟩ := h
 obtain ⟨dao, dc, rfl⟩ := hd.shape
 obtain ⟨fao, fc, rfl⟩ := hf.shape
 obtain ⟨nf, hnf⟩ := nmd (p.fns.length)
 obtain ⟨nd, hnd⟩ := nmd (p.data.length)
 obtain ⟨mem, hmem⟩ := nmd (p.mem)
 rw [← hnf, ← hnd, ← hmem]
 rw [← hnf] at hf
 obtain ⟨s, hs⟩ := nmd (w.heap.size)
 obtain ⟨W, hW⟩ := nmd (((w.alloc (.cells #[.int .i64 mem, .slice dao nd dc, .slice fao nf fc] 25)).alloc (.cells #[.int .i64 sf, .int .i64 sa] 36)).alloc (.cells #[.int .i64 0, .int .i64 0] 64))
 obtain ⟨k1, x1, x2, x3⟩ := allocs3 _ _ _ _ _ _ _ _ hW
 rw [← hs] at x1 x2 x3
 have HKW := hid_of k1
 have HB3 := hid_of x3
 have HGB := hid_of hs
 have HBS : Hid (B ≤ s) := by rw [hs]; exact hB
 have HF := hid_of (hf.kept HKW.out (fun _ _ f => f))
 have HNF := hid_of hnf
 obtain ⟨c0, c1, c2, _⟩ := look3 x1
 obtain ⟨e0, e1, _⟩ := look2 x2
 clear x1 x2 x3 k1 hd hdl hf hnf hnd hmem hB c0 c1
 go_enter Tryz.func51, Tryz.ntmps51
 go_upto_region 1 with fail
 rw [← hW, ← hs]
 clear hW hs
 by_cases h1 : sf < 0
 ·have HID : Hid (instrD p sf sa = none) := by unfold Hid instrD; rw [if_neg (by omega)]
  have b1 : (decide (sf < 0)) = true := decide_eq_true h1
  go_upto_region 1 with fail
  go_quiet (fail)
  obtain ⟨hx, hkx⟩ := set2 (W.drewN nq) (s + 2) 64 _ _ (.int .i64 0) (.int .i64 0) (box_kept (kept_drewN (Kept.refl (fun _ => False) W) nq) HB3.out id)
  obtain ⟨d0, d1, f0, f1⟩ := look2 (box_kept (kept_drewN (Kept.refl (fun _ => False) W) nq) HB3.out id)
  have HX1 := hid_of hx
  have HKX : Hid (KF w _) := (kept_drewN HKW.out nq).step hkx (fun j hj e => by have := HGB.out; omega)
  clear hx hkx
  go_wp2
  refine bodyPost_ret (v := .tuple #[.agg #[.int .i64 0, .int .i64 0], .bool false]) ?_ rfl ⟨HKX.out, by rw [HID.out]⟩
  exact results_rowt (fn := Tryz.f51) (p := 4) (r := 5) (by rfl) _ _ (s + 2) 64 _ (0, 0) _ (by rfl) HX1.out Tryz.underlying64 rfl size64
 ·by_cases h2 : (nf : Int) ≤ sf
  ·have HID : Hid (instrD p sf sa = none) := by unfold Hid instrD; rw [if_neg (by rw [← HNF.out]; omega)]
   go_upto_region 1 with fail
   go_quiet (fail)
   obtain ⟨hx, hkx⟩ := set2 (W.drewN nq) (s + 2) 64 _ _ (.int .i64 0) (.int .i64 0) (box_kept (kept_drewN (Kept.refl (fun _ => False) W) nq) HB3.out id)
   obtain ⟨d0, d1, f0, f1⟩ := look2 (box_kept (kept_drewN (Kept.refl (fun _ => False) W) nq) HB3.out id)
   have HX1 := hid_of hx
   have HKX : Hid (KF w _) := (kept_drewN HKW.out nq).step hkx (fun j hj e => by have := HGB.out; omega)
   clear hx hkx
   go_wp2
   refine bodyPost_ret (v := .tuple #[.agg #[.int .i64 0, .int .i64 0], .bool false]) ?_ rfl ⟨HKX.out, by rw [HID.out]⟩
   exact results_rowt (fn := Tryz.f51) (p := 4) (r := 5) (by rfl) _ _ (s + 2) 64 _ (0, 0) _ (by rfl) HX1.out Tryz.underlying64 rfl size64
  ·obtain ⟨i, hi⟩ : ∃ i : Nat, sf = (i : Int) := ⟨sf.toNat, by omega⟩
   subst hi
   have hil : i < p.fns.length := by rw [← HNF.out]; omega
   obtain ⟨gf, o, f, hao, hgB, hff, hfa⟩ := HF.out.at (i := i) hil
   subst hao
   obtain ⟨cao, cc, z0, z1, z2, z3, hri, hcl⟩ := fn_read hfa
   have hiI : (i : Int) < (nf : Int) := by omega
   have HID0 : Hid (instrD p (i : Int) sa = if 0 ≤ sa ∧ sa < f.code.length then (f.code[sa.toNat]?).map (fun x => (x, f)) else none) := by
    unfold Hid instrD
    rw [if_pos (by rw [← HNF.out]; omega), Int.toNat_natCast, hff]
    rfl
   obtain ⟨n, hn⟩ := nmd (f.code.length)
   rw [← hn] at z3 hri HID0
   have HN := hid_of hn
   have HCL := hid_of hcl
   have HRI := hid_of hri
   clear hcl hri hn hff hfa z0 z1 z2 hil
   by_cases h3 : sa < 0
   ·have HID : Hid (instrD p (i : Int) sa = none) := by unfold Hid; rw [HID0.out, if_neg (by omega)]
    go_upto_region 1 with fail
    go_quiet (fail)
    obtain ⟨hx, hkx⟩ := set2 (W.drewN nq) (s + 2) 64 _ _ (.int .i64 0) (.int .i64 0) (box_kept (kept_drewN (Kept.refl (fun _ => False) W) nq) HB3.out id)
    obtain ⟨d0, d1, f0, f1⟩ := look2 (box_kept (kept_drewN (Kept.refl (fun _ => False) W) nq) HB3.out id)
    have HX1 := hid_of hx
    have HKX : Hid (KF w _) := (kept_drewN HKW.out nq).step hkx (fun j hj e => by have := HGB.out; omega)
    clear hx hkx
    go_wp2
    refine bodyPost_ret (v := .tuple #[.agg #[.int .i64 0, .int .i64 0], .bool false]) ?_ rfl ⟨HKX.out, by rw [HID.out]⟩
    exact results_rowt (fn := Tryz.f51) (p := 4) (r := 5) (by rfl) _ _ (s + 2) 64 _ (0, 0) _ (by rfl) HX1.out Tryz.underlying64 rfl size64
   ·by_cases h4 : (n : Int) ≤ sa
    ·have HID : Hid (instrD p (i : Int) sa = none) := by unfold Hid; rw [HID0.out, if_neg (by omega)]
     go_upto_region 1 with fail
     go_quiet (fail)
     obtain ⟨hx, hkx⟩ := set2 (W.drewN nq) (s + 2) 64 _ _ (.int .i64 0) (.int .i64 0) (box_kept (kept_drewN (Kept.refl (fun _ => False) W) nq) HB3.out id)
     obtain ⟨d0, d1, f0, f1⟩ := look2 (box_kept (kept_drewN (Kept.refl (fun _ => False) W) nq) HB3.out id)
     have HX1 := hid_of hx
     have HKX : Hid (KF w _) := (kept_drewN HKW.out nq).step hkx (fun j hj e => by have := HGB.out; omega)
     clear hx hkx
     go_wp2
     refine bodyPost_ret (v := .tuple #[.agg #[.int .i64 0, .int .i64 0], .bool false]) ?_ rfl ⟨HKX.out, by rw [HID.out]⟩
     exact results_rowt (fn := Tryz.f51) (p := 4) (r := 5) (by rfl) _ _ (s + 2) 64 _ (0, 0) _ (by rfl) HX1.out Tryz.underlying64 rfl size64
    ·obtain ⟨j, hj⟩ : ∃ j : Nat, sa = (j : Int) := ⟨sa.toNat, by omega⟩
     subst hj
     have hjI : (j : Int) < (n : Int) := by omega
     obtain ⟨gi, oi, x, hai, hx, hxr⟩ := rowI_at HRI.out (i := j) (by rw [← HN.out]; omega)
     subst hai
     have HID : Hid (instrD p (i : Int) (j : Int) = some (x, f)) := by
      unfold Hid
      rw [HID0.out, if_pos (by omega), Int.toNat_natCast, hx]
      rfl
     obtain ⟨op, ia⟩ := x
     go_upto_region 1 with fail
     go_quiet (fail)
     have hkD := kept_drewN (Kept.refl (fun _ => False) W) nq
     have c2' := hkD.cell c2 id
     have e0' := hkD.cell e0 id
     have e1' := hkD.cell e1 id
     have z3' := hkD.cell z3 id
     have x0' := hkD.cell (hxr 0 _ rfl) id
     have x1' := hkD.cell (hxr 1 _ rfl) id
     have HC3 := hid_of (box_kept hkD HB3.out id)
     have HK3 := hid_of (HKW.out.trans hkD)
     clear c2 e0 e1 z3 hxr hx
     go_upto_region 3 with fail
     clear hkD
     generalize W.drewN nq = w3 at *
     have HSM : Hid (∀ w', Kept (fun q => q = s + 2) w3 w' → w'.cell? ⟨s, 2, none⟩ = some (.slice (some ⟨gf, o, none⟩) nf fc) ∧ w'.cell? ⟨s + 1, 0, none⟩ = some (.int .i64 (i : Int)) ∧ w'.cell? ⟨s + 1, 1, none⟩ = some (.int .i64 (j : Int)) ∧ w'.cell? ⟨gf, o + i * 4 + 3, none⟩ = some (.slice (some ⟨gi, oi, none⟩) n cc) ∧ w'.cell? ⟨gi, oi + j * 2, none⟩ = some (.int .i64 op) ∧ w'.cell? ⟨gi, oi + j * 2 + 1, none⟩ = some (.int .i64 ia) ∧ True) := fun w' hw => by
      have h5 := HBS.out
      have h6 := HCL.out gi rfl (by rw [← HN.out]; omega)
      have n1 : ¬ s = s + 2 := by omega
      have n2 : ¬ s + 1 = s + 2 := by omega
      have n3 : ¬ gf = s + 2 := by omega
      have n4 : ¬ gi = s + 2 := by omega
      exact ⟨hw.cell c2' n1, hw.cell e0' n2, hw.cell e1' n2, hw.cell z3' n3, hw.cell x0' n4, hw.cell x1' n4, trivial⟩
     clear c2' e0' e1' z3' x0' x1'
     have hKd : KF w3 w3.drew := (Kept.refl _ _).drew
     refine wp_region_held_drew (S := fun w' => Kept (fun q => q = s + 2) w3 w') (by kernel_rfl) ((Kept.refl _ _).drew) (fun hHeld => ?_)
     generalize w3.drew = wd at *
     iterate 11
      refine tkn (v := ?_) 0 rfl ?_ ?_; rotate_left 1
      ·intro w hSw; obtain ⟨s0, s1, s2, s3, s4, s5, s6⟩ := HSM.out w hSw; go_simp; try with_reducible rfl
      try simp only [Act.put, tdy]
     obtain ⟨hx, hkx⟩ := set2 wd (s + 2) 64 _ _ (.int .i64 op) (.int .i64 ia) (box_kept hKd HC3.out id)
     obtain ⟨d0, d1, f0, f1⟩ := look2 (box_kept hKd HC3.out id)
     have HX1 := hid_of hx
     have HKS := hid_of ((hKd.mono (T := fun q => q = s + 2) (fun _ _ f => f.elim)).trans hkx)
     have HKX : Hid (KF w _) := HK3.out.step HKS.out (fun j hj e => by have := HGB.out; omega)
     clear hx hkx
     refine rdy 11 rfl (fun K hK => ?_)
     go_simp
     refine hK.out _ _ HKS.out (fun hHeld => ?_)
     clear hK K
     try simp only [Act.put, tdy]
     iterate 1
      refine tkn (v := ?_) 12 rfl ?_ ?_; rotate_left 1
      ·intro w hSw; go_simp; try with_reducible rfl
      try simp only [Act.put, tdy]
     refine wpAnyH_done (by kernel_rfl) ?_ _
     go_wp2
     refine bodyPost_ret (v := .tuple #[.agg #[.int .i64 op, .int .i64 ia], .bool true]) ?_ rfl ⟨HKX.out, by rw [HID.out]⟩
     exact results_rowt (fn := Tryz.f51) (p := 4) (r := 5) (by rfl) _ _ (s + 2) 64 _ (0, 0) _ (by rfl) HX1.out Tryz.underlying64 rfl size64
set_option maxHeartbeats 4000000 in
theorem rways_any (x : IN) (at' : Int) (w : World) (h0 : 0 ≤ at') (h1 : at' < 9223372036854775807) :
  Calls Tryz.prog 52 #[.agg #[.int .i64 x.op, .int .i64 x.a], .int .i64 at'] w (WayR x at' w) := by
 obtain ⟨op, a⟩ := x
 have hk1 : KF w (w.alloc (.cells #[.int .i64 op, .int .i64 a] 64)) := (Kept.refl _ _).alloc _
 have hb1 := heap_alloc_new w (.cells #[.int .i64 op, .int .i64 a] 64)
 have c0 := cell_block _ w.heap.size 0 _ _ _ hb1
 have c1 := cell_block _ w.heap.size 1 _ _ _ hb1
 have hs1 : (w.alloc (.cells #[.int .i64 op, .int .i64 a] 64)).heap.size = w.heap.size + 1 := by simp
 rcases way_cases ⟨op, a⟩ at' with ⟨ho, hw⟩ | ⟨ho, hw⟩ | ⟨ho, hw⟩ | ⟨o1, o2, o3, o4, o5, o6, hw⟩
 ·have HW := hid_of hw
  have HK := hid_of hk1
  simp only at ho
  clear hw hk1 hb1 hs1
  rcases ho with rfl | rfl | rfl
  all_goals
   go_enter Tryz.func52, Tryz.ntmps52
   go_wp2
   go_ret
   exact ⟨_, rfl, by rw [HW.out]; exact World.ownsRow_nil _ _ _ _, HK.out⟩
 ·simp only at ho
  subst ho
  have hkx := hk1.alloc (.cells #[.int .i64 a] 3)
  have hbx := heap_alloc_new (w.alloc (.cells #[.int .i64 14, .int .i64 a] 64)) (.cells #[.int .i64 a] 3)
  rw [hs1] at hbx
  have HX := hid_of hbx
  have HK := hid_of hkx
  have HW := hid_of hw
  clear hw hk1 hb1 hkx hbx hs1
  go_enter Tryz.func52, Tryz.ntmps52
  go_wp2
  go_ret
  exact ⟨_, rfl, by rw [HW.out]; exact own_single _ _ _ a HX.out (by omega), HK.out⟩
 ·simp only at ho hw
  rcases hw with ⟨hlt, hw⟩ | ⟨hlt, hw⟩ | ⟨hlt, hw⟩
  ·rcases ho with rfl | rfl
   ·have hkx := hk1.alloc (.cells #[.int .i64 a, .int .i64 (at' + 1)] 3)
    have hbx := heap_alloc_new (w.alloc (.cells #[.int .i64 15, .int .i64 a] 64)) (.cells #[.int .i64 a, .int .i64 (at' + 1)] 3)
    rw [hs1] at hbx
    have HX := hid_of hbx
    have HK := hid_of hkx
    have HW := hid_of hw
    clear hw hk1 hb1 hkx hbx hs1
    go_enter Tryz.func52, Tryz.ntmps52
    go_wp2
    go_ret
    exact ⟨_, rfl, by rw [HW.out]; exact own_pair _ _ _ a (at' + 1) HX.out (by omega), HK.out⟩
   ·have hkx := hk1.alloc (.cells #[.int .i64 a, .int .i64 (at' + 1)] 3)
    have hbx := heap_alloc_new (w.alloc (.cells #[.int .i64 16, .int .i64 a] 64)) (.cells #[.int .i64 a, .int .i64 (at' + 1)] 3)
    rw [hs1] at hbx
    have HX := hid_of hbx
    have HK := hid_of hkx
    have HW := hid_of hw
    clear hw hk1 hb1 hkx hbx hs1
    go_enter Tryz.func52, Tryz.ntmps52
    go_wp2
    go_ret
    exact ⟨_, rfl, by rw [HW.out]; exact own_pair _ _ _ a (at' + 1) HX.out (by omega), HK.out⟩
  ·have hge : ¬ a < at' + 1 := by omega
   rcases ho with rfl | rfl
   ·have hkx := hk1.alloc (.cells #[.int .i64 (at' + 1), .int .i64 a] 3)
    have hbx := heap_alloc_new (w.alloc (.cells #[.int .i64 15, .int .i64 a] 64)) (.cells #[.int .i64 (at' + 1), .int .i64 a] 3)
    rw [hs1] at hbx
    have HX := hid_of hbx
    have HK := hid_of hkx
    have HW := hid_of hw
    clear hw hk1 hb1 hkx hbx hs1
    go_enter Tryz.func52, Tryz.ntmps52
    go_wp2
    go_ret
    exact ⟨_, rfl, by rw [HW.out]; exact own_pair _ _ _ (at' + 1) a HX.out (by omega), HK.out⟩
   ·have hkx := hk1.alloc (.cells #[.int .i64 (at' + 1), .int .i64 a] 3)
    have hbx := heap_alloc_new (w.alloc (.cells #[.int .i64 16, .int .i64 a] 64)) (.cells #[.int .i64 (at' + 1), .int .i64 a] 3)
    rw [hs1] at hbx
    have HX := hid_of hbx
    have HK := hid_of hkx
    have HW := hid_of hw
    clear hw hk1 hb1 hkx hbx hs1
    go_enter Tryz.func52, Tryz.ntmps52
    go_wp2
    go_ret
    exact ⟨_, rfl, by rw [HW.out]; exact own_pair _ _ _ (at' + 1) a HX.out (by omega), HK.out⟩
  ·subst hlt
   rcases ho with rfl | rfl
   ·have hkx := hk1.alloc (.cells #[.int .i64 (at' + 1)] 3)
    have hbx := heap_alloc_new (w.alloc (.cells #[.int .i64 15, .int .i64 (at' + 1)] 64)) (.cells #[.int .i64 (at' + 1)] 3)
    rw [hs1] at hbx
    have HX := hid_of hbx
    have HK := hid_of hkx
    have HW := hid_of hw
    clear hw hk1 hb1 hkx hbx hs1
    go_enter Tryz.func52, Tryz.ntmps52
    go_wp2
    go_ret
    exact ⟨_, rfl, by rw [HW.out]; exact own_single _ _ _ (at' + 1) HX.out (by omega), HK.out⟩
   ·have hkx := hk1.alloc (.cells #[.int .i64 (at' + 1)] 3)
    have hbx := heap_alloc_new (w.alloc (.cells #[.int .i64 16, .int .i64 (at' + 1)] 64)) (.cells #[.int .i64 (at' + 1)] 3)
    rw [hs1] at hbx
    have HX := hid_of hbx
    have HK := hid_of hkx
    have HW := hid_of hw
    clear hw hk1 hb1 hkx hbx hs1
    go_enter Tryz.func52, Tryz.ntmps52
    go_wp2
    go_ret
    exact ⟨_, rfl, by rw [HW.out]; exact own_single _ _ _ (at' + 1) HX.out (by omega), HK.out⟩
 ·simp only at o1 o2 o3 o4 o5 o6
  have p1 : (op == 1) = false := by simp; exact o1
  have p2 : (op == 2) = false := by simp; exact o2
  have p3 : (op == 18) = false := by simp; exact o3
  have p4 : (op == 14) = false := by simp; exact o4
  have p5 : (op == 15) = false := by simp; exact o5
  have p6 : (op == 16) = false := by simp; exact o6
  have hkx := hk1.alloc (.cells #[.int .i64 (at' + 1)] 3)
  have hbx := heap_alloc_new (w.alloc (.cells #[.int .i64 op, .int .i64 a] 64)) (.cells #[.int .i64 (at' + 1)] 3)
  rw [hs1] at hbx
  have HX := hid_of hbx
  have HK := hid_of hkx
  have HW := hid_of hw
  clear hw hk1 hb1 hkx hbx hs1
  go_enter Tryz.func52, Tryz.ntmps52
  go_wp2
  go_ret
  exact ⟨_, rfl, by rw [HW.out]; exact own_single _ _ _ (at' + 1) HX.out (by omega), HK.out⟩
set_option maxHeartbeats 4000000 in
theorem same_true (v v' : Value) (l : List Int) (w : World) (b1 b2 : Nat) (h : OwnN w b1 v l) (h' : OwnN w b2 v' l) (hl : l.length ≤ 10000) :
  Calls Tryz.prog 18 #[v, v'] w fun e w' => e = .returned (.bool true) ∧ KF w w' := by
 have HO1 := hid_of h
 have HO2 := hid_of h'
 obtain ⟨ao, c, hv⟩ := ownsRow_shape h
 obtain ⟨ao', c', hv'⟩ := ownsRow_shape h'
 obtain ⟨m, hm⟩ := nmd (l.length)
 rw [← hm] at hv hv' hl
 subst hv hv'
 have HM := hid_of hm
 have HK0 := hid_of (Kept.refl (fun _ => False) w)
 clear h h' hm
 go_enter Tryz.func18, Tryz.ntmps18
 go_wp2
 go_loopw [5] (fun iv wr => ∃ k : Nat, k ≤ m ∧ iv = .int .i64 (k : Int) ∧ Hid (KF w wr)) (fun iv _ => m - (intOf iv).toNat)
 case atStart => exact ⟨0, by omega, rfl, HK0⟩
 case round =>
  clear HK0
  obtain ⟨k, hk, rfl, HK⟩ := hrel
  by_cases hlt : k < m
  ·have hltI : (k : Int) < (m : Int) := by omega
   have hkl : k < l.length := by rw [← HM.out]; exact hlt
   obtain ⟨g, c1, e1, hco⟩ := own_look (HK.out.ownsRow HO1.out (fun _ _ f => f)) hkl
   simp only [Value.slice.injEq] at e1
   obtain ⟨rfl, hx8, rfl⟩ := e1
   obtain ⟨g', c1', e1', hco'⟩ := own_look (HK.out.ownsRow HO2.out (fun _ _ f => f)) hkl
   simp only [Value.slice.injEq] at e1'
   obtain ⟨rfl, hx9, rfl⟩ := e1'
   generalize l.getD k 0 = y at *
   clear hx8 hx9 hkl
   go_upto_region 6 with fail
   go_quiet (fail)
   go_wp2
   go_roundw
   case rel => exact ⟨k + 1, by omega, by go_num, kept_drewN HK.out _⟩
   case measure => simp [intOf]; omega
  ·go_wp2
   go_ret
   exact ⟨rfl, HK.out⟩
set_option maxHeartbeats 8000000 in
theorem rnext_any (v : Value) (p : PG) (w : World) (B : Nat) (h : PgIs w B v p) (hB : B ≤ w.heap.size) (ho : p.Ok) (sf sa : Int) :
  Calls Tryz.prog 19 #[v, .agg #[.int .i64 sf, .int .i64 sa]] w fun e w' => ∃ v', e = .returned v' ∧ OwnN w' w.heap.size v' (nextD p sf sa) ∧ KF w w' := by
 have hpg := h
 obtain ⟨dv, fv, rfl, hd, hdl, hf⟩ := h
 obtain ⟨dao, dc, rfl⟩ := hd.shape
 obtain ⟨fao, fc, rfl⟩ := hf.shape
 obtain ⟨nf, hnf⟩ := nmd (p.fns.length)
 obtain ⟨nd, hnd⟩ := nmd (p.data.length)
 obtain ⟨mem, hmem⟩ := nmd (p.mem)
 rw [← hnf, ← hnd, ← hmem] at hpg ⊢
 rw [← hnf] at hf
 obtain ⟨s, hs⟩ := nmd (w.heap.size)
 obtain ⟨W, hW⟩ := nmd ((w.alloc (.cells #[.int .i64 mem, .slice dao nd dc, .slice fao nf fc] 25)).alloc (.cells #[.int .i64 sf, .int .i64 sa] 36))
 obtain ⟨k1, x1, x2⟩ := allocs2 _ _ _ _ _ _ hW
 rw [← hs] at x1 x2
 have HKW := hid_of k1
 have HB1 := hid_of x1
 have HB2 := hid_of x2
 have HO := hid_of ho
 have HF := hid_of hf
 have HNF := hid_of hnf
 have HIN := hid_of (rat_any _ p W B (hpg.kept k1 (fun _ _ f => f)) (Nat.le_trans hB k1.size) sf sa)
 obtain ⟨c0, c1, c2, _⟩ := look3 x1
 obtain ⟨e0, e1, _⟩ := look2 x2
 have HGB := hid_of hs
 clear x1 x2 k1 hd hdl hf hnf hnd hmem hpg ho hB
 go_enter Tryz.func19, Tryz.ntmps19
 go_upto_region 1 with fail
 rw [← hW, ← hs]
 clear hW hs
 go_wp2_with fail
 refine HIN.out.mono ?_
 rintro e w2 ⟨hk2, hm⟩
 clear HIN c0 c1 c2 e0 e1
 cases hi : instrD p sf sa with
 | none =>
  rw [hi] at hm
  subst hm
  have HT : Hid (nextD p sf sa = []) := by unfold Hid nextD; rw [hi]
  have HKF := hid_of ((HKW.out.trans hk2).alloc (.cells #[.int .i64 0, .int .i64 0] 64))
  clear hk2 hi
  go_wp2
  go_ret
  exact ⟨_, rfl, by rw [HT.out]; exact World.ownsRow_nil _ _ _ _, HKF.out⟩
 | some xf =>
  obtain ⟨x, f⟩ := xf
  rw [hi] at hm
  have hm : e = .returned (.tuple #[.agg #[.int .i64 x.op, .int .i64 x.a], .bool true]) := hm
  subst hm
  obtain ⟨hm1, hm2, hm3, hm4, hm5, hm6, hm7, hm8⟩ := instrD_mem hi
  have HT : Hid (nextD p sf sa = (wayL x sa).filter (fun y => amg y f.code.length)) := by unfold Hid nextD; rw [hi]
  obtain ⟨i, hi2⟩ : ∃ i : Nat, sf = (i : Int) := ⟨sf.toNat, by omega⟩
  subst hi2
  rw [Int.toNat_natCast] at hm5
  have hiI : (i : Int) < (nf : Int) := by rw [HNF.out]; exact hm4
  obtain ⟨gf, o, f2, hao, hgB, hff, hfa⟩ := HF.out.at (i := i) (by rw [← HNF.out]; omega)
  have : f2 = f := by rw [hm5] at hff; exact (Option.some.inj hff).symm
  subst this
  subst hao
  obtain ⟨cao, cc, z0, z1, z2, z3, hri, hcl⟩ := fn_read hfa
  have hkA := (HKW.out.trans hk2).alloc (.cells #[.int .i64 x.op, .int .i64 x.a] 64)
  have hbA := heap_alloc_new w2 (.cells #[.int .i64 x.op, .int .i64 x.a] 64)
  have hfl := (HO.out.fns f2 hm1).len
  have HGO := hid_of (fun W => rways_any x sa W hm6 (by omega))
  have HWL := hid_of (way_len x sa)
  have HC1 := hid_of (box_kept (hk2.alloc (.cells #[.int .i64 x.op, .int .i64 x.a] 64)) HB1.out id)
  have HC2 := hid_of (box_kept (hk2.alloc (.cells #[.int .i64 x.op, .int .i64 x.a] 64)) HB2.out id)
  have HKA := hid_of hkA
  have HBA := hid_of hbA
  have HZ3 := hid_of z3
  clear hi hm1 hm2 hm3 hm4 hm5 hm6 hm7 hm8 hgB hff hfa z0 z1 z2 z3 hri hcl hkA hbA hfl hk2
  unfold WayR at HGO
  generalize wayL x sa = wl at *
  generalize x.op = op at *
  generalize x.a = ia at *
  generalize f2.code.length = n at *
  go_upto_region 2 with fail
  generalize w2.alloc (.cells #[.int .i64 op, .int .i64 ia] 64) = w3 at *
  generalize w2.heap.size = gx at *
  obtain ⟨q0, q1, _⟩ := look2 HBA.out
  obtain ⟨_, e1, _⟩ := look2 HC2.out
  go_wp2_with fail
  refine (HGO.out _).mono ?_
  rintro e w4 ⟨v4, rfl, ho4, hk4⟩
  have HK4 := hid_of (HKA.out.trans hk4)
  have HO4 := hid_of ho4
  have HD1 := hid_of (box_kept hk4 HC1.out id)
  have HD2 := hid_of (box_kept hk4 HC2.out id)
  obtain ⟨vao, vc, hv4⟩ := ownsRow_shape ho4
  obtain ⟨m, hm⟩ := nmd (wl.length)
  rw [← hm] at hv4
  subst hv4
  have HM := hid_of hm
  have hm2 : m ≤ 2 := by have := HWL.out; omega
  have HL0 : Hid (OwnN w4 w4.heap.size (.slice none 0 0) ((wl.take 0).filter (fun y => amg y n))) := World.ownsRow_nil _ _ _ _
  have HK0 := hid_of (Kept.refl (fun _ => False) w4)
  clear ho4 hk4 HGO q0 q1 e1 hm HC1 HC2
  go_wp2
  go_loopw [7, 9] (fun ov iv wr => ∃ k : Nat, k ≤ m ∧ iv = .int .i64 (k : Int) ∧ Hid (OwnN wr w4.heap.size ov ((wl.take k).filter (fun y => amg y n))) ∧ Hid (KF w4 wr)) (fun _ iv _ => m - (intOf iv).toNat)
  case atStart => exact ⟨0, by omega, rfl, HL0, HK0⟩
  case round =>
   clear HL0 HK0
   obtain ⟨k, hk, rfl, HL, HK⟩ := hrel
   by_cases hlt : k < m
   ·have hltI : (k : Int) < (m : Int) := by omega
    have hkl : k < wl.length := by rw [← HM.out]; exact hlt
    obtain ⟨g, c1, e1, hco⟩ := own_look (HK.out.ownsRow HO4.out (fun _ _ f => f)) hkl
    simp only [Value.slice.injEq] at e1
    obtain ⟨rfl, hx8, rfl⟩ := e1
    have p2 := cell_block _ _ 2 _ _ _ (box_kept HK.out HD1.out id)
    have s0 := cell_block _ _ 0 _ _ _ (box_kept HK.out HD2.out id)
    have z3 := (HK4.out.trans HK.out).cell HZ3.out id
    have HTK : Hid ((wl.take (k + 1)).filter (fun y => amg y n) = if amg (wl.getD k 0) n = true then (wl.take k).filter (fun y => amg y n) ++ [wl.getD k 0] else (wl.take k).filter (fun y => amg y n)) := by
     unfold Hid
     rw [List.take_add_one, List.filter_append, List.getElem?_eq_getElem hkl]
     have : wl[k] = wl.getD k 0 := by simp [List.getD, List.getElem?_eq_getElem hkl]
     rw [this]
     split
     ·rename_i h1
      simp only [Option.toList, List.filter_cons, h1, if_true, List.filter_nil]
     ·rename_i h1
      rw [Bool.not_eq_true] at h1
      simp only [Option.toList, List.filter_cons, h1, Bool.false_eq_true, if_false, List.filter_nil, List.append_nil]
    have hfl2 : ((wl.take k).filter (fun y => amg y n)).length ≤ 100 := by
     have h1 := List.length_filter_le (fun y : Int => amg y n) (wl.take k)
     rw [List.length_take] at h1
     omega
    have HFL := hid_of hfl2
    obtain ⟨lao, lc, hlv⟩ := ownsRow_shape HL.out
    obtain ⟨nl, hnl⟩ := nmd (((wl.take k).filter (fun y => amg y n)).length)
    rw [← hnl] at hlv
    subst hlv
    clear hx8 hkl hnl hfl2
    generalize wl.getD k 0 = y at *
    by_cases h1 : y < 0
    ·have HAM : Hid (amg y n = false) := by unfold Hid; rw [← Bool.not_eq_true, amg_iff]; omega
     have hge : ¬ 0 ≤ y := by omega
     go_upto_region 9 with fail
     go_quiet (fail)
     have HLN : Hid (OwnN (wr.drewN nq) w4.heap.size (.slice lao nl lc) ((wl.take (k + 1)).filter (fun y => amg y n))) := by
      unfold Hid
      rw [HTK.out, if_neg (by rw [Bool.not_eq_true]; exact HAM.out)]
      exact (kept_drewN (Kept.refl (fun _ => False) wr) nq).ownsRow HL.out (fun _ _ f => f)
     have HKN := hid_of (kept_drewN HK.out nq)
     clear HTK HL HK hco p2 s0 z3 HAM
     go_wp2
     go_roundw
     case rel => exact ⟨k + 1, by omega, by go_num, HLN, HKN⟩
     case measure => simp [intOf]; omega
    ·have hge : 0 ≤ y := by omega
     by_cases h2 : (n : Int) ≤ y
     ·have HAM : Hid (amg y n = false) := by unfold Hid; rw [← Bool.not_eq_true, amg_iff]; omega
      have hnl2 : ¬ y < (n : Int) := by omega
      go_upto_region 9 with fail
      go_quiet (fail)
      have HLN : Hid (OwnN (wr.drewN nq) w4.heap.size (.slice lao nl lc) ((wl.take (k + 1)).filter (fun y => amg y n))) := by
       unfold Hid
       rw [HTK.out, if_neg (by rw [Bool.not_eq_true]; exact HAM.out)]
       exact (kept_drewN (Kept.refl (fun _ => False) wr) nq).ownsRow HL.out (fun _ _ f => f)
      have HKN := hid_of (kept_drewN HK.out nq)
      clear HTK HL HK hco p2 s0 z3 HAM
      go_wp2
      go_roundw
      case rel => exact ⟨k + 1, by omega, by go_num, HLN, HKN⟩
      case measure => simp [intOf]; omega
     ·have hyn : y < (n : Int) := by omega
      have HAM : Hid (amg y n = true) := (amg_iff _ _).2 ⟨hge, hyn⟩
      go_upto_region 9 with fail
      go_quiet (fail)
      have hkD := kept_drewN (Kept.refl (fun _ => False) wr) nq
      obtain ⟨v', w', hr, ho, hk0, hk1⟩ := push_num (hkD.ownsRow HL.out (fun _ _ f => f)) y (HK.out.trans hkD) (by have := HFL.out; omega)
      have hco' := hkD.cell hco id
      have HR := hid_of hr
      have HLN : Hid (OwnN w' w4.heap.size v' ((wl.take (k + 1)).filter (fun y => amg y n))) := by
       unfold Hid
       rw [HTK.out, if_pos HAM.out]
       exact ho
      have HKN := hid_of hk0
      obtain ⟨lao', lc', hlv'⟩ := ownsRow_shape ho
      generalize ((wl.take k).filter (fun y => amg y n) ++ [y]).length = nl' at hlv'
      subst hlv'
      clear HTK HL HK hco p2 s0 z3 HAM hr ho hk0 hk1 hkD
      generalize wr.drewN nq = wd at *
      go_wp2_with (at_builtin; refine wp_app2 rfl (.tmp 48) (.tmp 53) 30 30 rfl _ _ rfl rfl _ w' HR.out ?_)
      go_roundw
      case rel => exact ⟨k + 1, by omega, by go_num, HLN, HKN⟩
      case measure => simp [intOf]; omega
   ·have HOF : Hid (OwnN wr w.heap.size u7 (nextD p (i : Int) sa)) := by
     have h1 := HL.out
     rw [List.take_of_length_le (by rw [← HM.out]; omega)] at h1
     unfold Hid
     rw [HT.out]
     exact own_mono h1 HK4.out.size
    have HKF := hid_of (HK4.out.trans HK.out)
    clear HL HK
    go_wp2
    go_ret
    exact ⟨_, rfl, HOF.out, HKF.out⟩
end Go.Proofs.YtcaadgcfceommaaGreat

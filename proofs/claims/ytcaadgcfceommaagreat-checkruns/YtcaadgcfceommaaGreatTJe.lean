import Derived.Test.YtcaadgcfceommaaGreatTJd
namespace Go.Proofs.YtcaadgcfceommaaGreat
open Go.RowKit
set_option linter.unusedVariables false
set_option linter.unusedSimpArgs false
set_option maxRecDepth 100000
theorem join_IH (n : Nat) (b : Int) (hb : 0 ≤ b ∧ b ≤ 256) : ∀ (ms hs l : List Int) (r : List Int × List Int), (∀ m ∈ ms, 0 ≤ m ∧ m < n) → IH n hs l → joinH b ms hs l = some r → IH n r.1 r.2 ∧ r.1.count (-1) + r.2.length = hs.count (-1) + l.length
 | [], hs, l, r, _, h, hr => by cases hr; exact ⟨h, rfl⟩
 | m :: ms, hs, l, r, hms, h, hr => by
  have hms' : ∀ x ∈ ms, 0 ≤ x ∧ x < n := fun x hx => hms x (by simp [hx])
  rw [joinH] at hr
  split at hr
  ·rename_i h1
   obtain ⟨i1, i2⟩ := h.push m b (hms m (by simp)) hb h1
   obtain ⟨j1, j2⟩ := join_IH n b hb ms _ _ r hms' i1 hr
   exact ⟨j1, by omega⟩
  ·split at hr
   ·exact join_IH n b hb ms _ _ r hms' h hr
   ·cases hr
theorem run_one {ss : List ST} {n : Nat} {hs l : List Int} {ws : List Bool} (hj : JW n hs l ws) {i : Nat} (hi : i < n) (ht : ws.getD i false = true) (hlo : ∀ j, j < i → ws.getD j false = false) {s : ST} (hs' : ss[i]? = some s) (f : Nat) :
  runH ss n (f + 1) hs l = if faultS s (hs.getD i 0) n ≠ 0 then .error ((i : Int), faultS s (hs.getD i 0) n) else match joinH (behindS s (hs.getD i 0)) s.nx hs (popL l).2 with
   | none => .error ((i : Int), 136)
   | some r => runH ss n f r.1 r.2 := by
 obtain ⟨h0, he, _⟩ := pop_rel hj hi ht hlo
 rw [runH, if_neg (by omega), he, Int.toNat_natCast, hs']
 rfl
def HgR (p : PG) (f : FN) (q : Nat) (w : World) (e : Ending) (w' : World) : Prop := KF w w' ∧ match heightsD (stepsL p f) f.code.length with
 | .ok hs => ∃ u, e = .returned (.tuple #[u, .agg #[.int .i64 0, .int .i64 0, .int .i64 0]]) ∧ OwnN w' w.heap.size u hs
 | .error (at', er) => e = .returned (.tuple #[.slice none 0 0, .agg #[.int .i64 er, .int .i64 (q : Int), .int .i64 at']])
theorem results_tc {fn : Func} {p u : Tmp} (h : fn.results = #[.tmp u, .cell p 38]) (tmps : Array Value) (w : World) (g : Nat) (a b c x : Value)
  (hx : tmps.getD u undef = x) (hp : tmps.getD p undef = .pointer (some ⟨g, 0, none⟩)) (hg : w.heap[g]? = some (.cells #[a, b, c] 38 (0, 0))) :
  (results fn tmps).run Tryz.prog w = .ok (.tuple #[x, .agg #[a, b, c]]) w := by
 have hp' : tmps[p]?.getD undef = .pointer (some ⟨g, 0, none⟩) := by simpa using hp
 have hx' : tmps[u]?.getD undef = x := by simpa using hx
 simp [results, h, hp', hx', asAddr, run_loadVar_row w g 38 38 _ (0, 0) _ hg Tryz.underlying38 rfl size38]
theorem built127 (mem q : Int) (dao fao : Option Addr) (nd dc nf fc n gh gw : Nat) : Tryz.prog.built 127 [(0, .agg #[.int .i64 mem, .slice dao nd dc, .slice fao nf fc]), (1, .int .i64 q), (2, .slice (some ⟨gh, 0, none⟩) n n), (3, .slice (some ⟨gw, 0, none⟩) n n)] = some #[.int .i64 mem, .slice dao nd dc, .slice fao nf fc, .int .i64 q, .slice (some ⟨gh, 0, none⟩) n n, .slice (some ⟨gw, 0, none⟩) n n] := by
 kernel_rfl
theorem run127 (w : World) (mem q : Int) (dao fao : Option Addr) (nd dc nf fc n gh gw : Nat) : (Instr.build 127 #[(0, .agg #[.int .i64 mem, .slice dao nd dc, .slice fao nf fc]), (1, .int .i64 q), (2, .slice (some ⟨gh, 0, none⟩) n n), (3, .slice (some ⟨gw, 0, none⟩) n n)]).run Tryz.prog w = .ok (.agg #[.int .i64 mem, .slice dao nd dc, .slice fao nf fc, .int .i64 q, .slice (some ⟨gh, 0, none⟩) n n, .slice (some ⟨gw, 0, none⟩) n n]) w :=
 run_build w 127 _ _ (built127 mem q dao fao nd dc nf fc n gh gw)
theorem exec127 (ev : Operand → Value) (oi : Oper) (w : World) (mem q : Int) (dao fao : Option Addr) (nd dc nf fc n gh gw : Nat) (o0 o1 o2 o3 : Operand) (ho : oi.op = .build 127 #[(0, o0), (1, o1), (2, o2), (3, o3)]) (h0 : ev o0 = .agg #[.int .i64 mem, .slice dao nd dc, .slice fao nf fc]) (h1 : ev o1 = .int .i64 q) (h2 : ev o2 = .slice (some ⟨gh, 0, none⟩) n n) (h3 : ev o3 = .slice (some ⟨gw, 0, none⟩) n n) :
  Sem.run Tryz.prog (execOp ev oi) w = Result.ok (Next.value (.agg #[.int .i64 mem, .slice dao nd dc, .slice fao nf fc, .int .i64 q, .slice (some ⟨gh, 0, none⟩) n n, .slice (some ⟨gw, 0, none⟩) n n])) w := by
 have hr := run127 w mem q dao fao nd dc nf fc n gh gw
 unfold execOp
 simp only [ho, List.map_toArray, List.map_cons, List.map_nil, h0, h1, h2, h3, Sem.run_bind, hr, Result.andThen_ok, Sem.run_pure]
theorem lk_new (w1 W : World) (base n : Nat) (gh gw : Nat) (C : Array Value) (hh : W.heap[gh]? = some (.cells (zint n) 3 (0, 0))) (hw : W.heap[gw]? = some (.cells (zbool n) 4 (0, 0))) (g : Nat) (hg : W.heap[g]? = some (.cells C 127 (0, 0))) (h1 : base ≤ gh) (h2 : base ≤ gw) (hn : n ≤ 10000) : LkAt W base g gh gw n C (List.replicate n 0) (List.replicate n false) := by
 have e1 := own_zint W base gh n hh h1 hn
 have e2 := own_zbool W base gw n hw h2 hn
 exact ⟨hg, e1, e2, by simp, by simp⟩
set_option maxHeartbeats 40000000 in
theorem heights_ref (v : Value) (p : PG) (B : Nat) (w : World) (hpg : PgIs w B v p) (hB : B ≤ w.heap.size) (ho : p.Ok) (hck : checkP p = 0) (hall : ∀ f ∈ p.fns, FnOk p f) (q : Nat) (f : FN) (hf : p.fns[q]? = some f) :
  Calls Tryz.prog 39 #[v, .int .i64 (q : Int)] w (HgR p f q w) := by
 have hpg0 := hpg
 obtain ⟨dv, fv, rfl, hd, hdl, hfr⟩ := hpg
 obtain ⟨dao, dc, rfl⟩ := hd.shape
 obtain ⟨fao, fc, rfl⟩ := hfr.shape
 obtain ⟨nf, hnf⟩ := nmd (p.fns.length)
 obtain ⟨nd, hnd⟩ := nmd (p.data.length)
 obtain ⟨mem, hmem⟩ := nmd (p.mem)
 rw [← hnf, ← hnd, ← hmem] at hpg0 ⊢
 have hfo := hall f (List.mem_of_getElem? hf)
 have hok := steps_ok p f hfo hall
 have hqn : q < p.fns.length := (List.getElem?_eq_some_iff.1 hf).1
 have hqI : (q : Int) < (nf : Int) := by omega
 obtain ⟨n, hn⟩ := nmd (f.code.length)
 have hn1 : 1 ≤ n := by rw [hn]; exact hfo.n.1
 have hn4 : n ≤ 4096 := by rw [hn]; exact hfo.n.2
 obtain ⟨gb, hgb⟩ := nmd (w.heap.size)
 obtain ⟨W, hW⟩ := nmd ((w.alloc (.cells #[.int .i64 mem, .slice dao nd dc, .slice fao nf fc] 25)).alloc (.cells #[.int .i64 0, .int .i64 0, .int .i64 0] 38))
 obtain ⟨hkW, hb1, hb2⟩ := allocs2 _ _ _ _ _ _ hW
 rw [← hgb] at hb1 hb2
 have HPG : Hid (∀ w', KF W w' → PgIs w' B (.agg #[.int .i64 mem, .slice dao nd dc, .slice fao nf fc]) p ∧ B ≤ w'.heap.size) := fun w' hw => ⟨hpg0.kept (hkW.trans hw) (fun _ _ f => f), Nat.le_trans hB (hkW.trans hw).size⟩
 obtain ⟨pg, po, f', e1, hgB, hfi, hfa⟩ := (hfr.kept hkW (fun _ _ f => f)).at (i := q) hqn
 subst e1
 have ef : f' = f := by rw [hf] at hfi; exact (Option.some.inj hfi).symm
 subst ef
 obtain ⟨cao, cc, y0, y1, y2, y3, hri, hcl⟩ := fn_read hfa
 rw [← hn] at y3
 obtain ⟨z0, z1, z2, _⟩ := look3 hb1
 have HKW := hid_of hkW
 have HB1 := hid_of hb1
 have HB2 := hid_of hb2
 have HGB := hid_of hgb
 have HN := hid_of hn
 have HOK := hid_of hok
 have HF := hid_of hf
 have HAL := hid_of hall
 have HCK := hid_of hck
 have HO := hid_of ho
 clear hkW hb1 hb2 hd hdl hfr hnf hnd hmem hpg0 ho hB hck hall hf hok hfi hfa hri hcl y0 y1 y2 hn hfo hgB hqn
 go_enter Tryz.func39, Tryz.ntmps39
 go_upto_region 1 with fail
 rw [← hW, ← hgb]
 clear hW hgb
 go_upto_region 2 with fail
 clear y3 z0 z1 z2
 have HB0 : Hid (w.heap.size ≤ W.heap.size) := HKW.out.size
 go_cut [7] from 11 to 80 (fun v7 wx => ∃ g gh gw, v7 = .pointer (some ⟨g, 0, none⟩) ∧ Hid (LkAt wx W.heap.size g gh gw n #[.int .i64 mem, .slice dao nd dc, .slice (some ⟨pg, po, none⟩) nf fc, .int .i64 (q : Int), .slice (some ⟨gh, 0, none⟩) n n, .slice (some ⟨gw, 0, none⟩) n n] (List.replicate n 0) (List.replicate n false)) ∧ W.heap.size ≤ g ∧ Hid (KF W wx))
 case first =>
  as_aux_lemma =>
   have HSX : Hid (∀ w', KF W w' → w'.cell? ⟨gb, 0, none⟩ = some (.int .i64 mem) ∧ w'.cell? ⟨gb, 1, none⟩ = some (.slice dao nd dc) ∧ w'.cell? ⟨gb, 2, none⟩ = some (.slice (some ⟨pg, po, none⟩) nf fc)) := fun w' hw => by
    obtain ⟨z0, z1, z2, _⟩ := look3 (box_kept hw HB1.out id)
    exact ⟨z0, z1, z2⟩
   refine wp_region_held_drew (S := fun w' => KF W w') (by kernel_rfl) ((Kept.refl _ _).drew) (fun hHeld => ?_)
   have hKd : KF W W.drew := (Kept.refl _ _).drew
   generalize W.drew = wd at *
   iterate 3
    refine tkn (v := ?_) 0 rfl ?_ ?_; rotate_left 1
    ·intro w hSw; obtain ⟨a0, a1, a2⟩ := HSX.out w hSw; go_simp; try with_reducible rfl
    try simp only [Act.put, tdy]
   iterate 1
    refine tkn (v := ?_) 4 rfl ?_ ?_; rotate_left 1
    ·intro w hSw; obtain ⟨a0, a1, a2⟩ := HSX.out w hSw; go_simp; try with_reducible rfl
    try simp only [Act.put, tdy]
   refine wpAnyH_ready (rs := [3, 5]) (by kernel_rfl) (by simp) ?_
   refine AllReadyH.cons rfl (fun K hK => ?_) (AllReadyH.cons rfl (fun K hK => ?_) AllReadyH.nil)
   ·have hmk := makeInt wd n (by omega)
    go_simp
    refine hK.out _ _ (hHeld.alloc _) (fun hHeld => ?_)
    clear hK K hmk
    try simp only [Act.put, tdy]
    have hka : KF wd (wd.alloc (.cells (zint n) 3)) := (Kept.refl _ _).alloc _
    have hba := heap_alloc_new wd (.cells (zint n) 3)
    generalize wd.alloc (.cells (zint n) 3) = wa at *
    have hmk := makeBool wa n (by omega)
    refine rdy 5 rfl (fun K hK => ?_)
    go_simp
    refine hK.out _ _ (hHeld.alloc _) (fun hHeld => ?_)
    clear hK K hmk
    try simp only [Act.put, tdy]
    have hkb : KF wa (wa.alloc (.cells (zbool n) 4)) := (Kept.refl _ _).alloc _
    have hbb := heap_alloc_new wa (.cells (zbool n) 4)
    generalize wa.alloc (.cells (zbool n) 4) = wb at *
    have hba2 := box_kept hkb hba id
    have s1 : W.heap.size ≤ wd.heap.size := hKd.size
    have s2 : wd.heap.size ≤ wa.heap.size := hka.size
    clear hba
    generalize wd.heap.size = ga at *
    generalize wa.heap.size = gbb at *
    have HBA := hid_of hba2
    have HBB := hid_of hbb
    have HS1 := hid_of s1
    have HS2 := hid_of s2
    have HKd := hid_of hKd
    clear hba2 hbb s1 s2 hka hkb hKd
    refine tkp (v := .agg #[.int .i64 mem, .slice dao nd dc, .slice (some ⟨pg, po, none⟩) nf fc, .int .i64 (q : Int), .slice (some ⟨ga, 0, none⟩) n n, .slice (some ⟨gbb, 0, none⟩) n n]) 6 rfl ?_ ?_
    ·intro w hSw; exact exec127 _ _ w mem (q : Int) dao (some ⟨pg, po, none⟩) nd dc nf fc n ga gbb _ _ _ _ rfl rfl rfl rfl rfl
    try simp only [Act.put, tdy]
    have hbx := heap_alloc_new wb (.cells #[.int .i64 mem, .slice dao nd dc, .slice (some ⟨pg, po, none⟩) nf fc, .int .i64 (q : Int), .slice (some ⟨ga, 0, none⟩) n n, .slice (some ⟨gbb, 0, none⟩) n n] 127)
    have hkx : KF wb (wb.alloc (.cells #[.int .i64 mem, .slice dao nd dc, .slice (some ⟨pg, po, none⟩) nf fc, .int .i64 (q : Int), .slice (some ⟨ga, 0, none⟩) n n, .slice (some ⟨gbb, 0, none⟩) n n] 127)) := (Kept.refl _ _).alloc _
    have s3 := hHeld.size
    have HLK := hid_of (lk_new wb _ W.heap.size n ga gbb _ (box_kept hkx HBA.out id) (box_kept hkx HBB.out id) wb.heap.size hbx (by have h1 := HS1.out; have h2 := HS2.out; omega) (by have h1 := HS1.out; have h2 := HS2.out; omega) (by omega))
    refine rdy 7 rfl (fun K hK => ?_)
    go_simp
    refine hK.out _ _ (hHeld.alloc _) (fun hHeld => ?_)
    clear hK K
    try simp only [Act.put, tdy]
    iterate 1
     refine tkn (v := ?_) 8 rfl ?_ ?_; rotate_left 1
     ·intro w hSw; go_simp; try with_reducible rfl
     try simp only [Act.put, tdy]
    refine wpAnyH_done (by kernel_rfl) ?_ _
    have HKX := hid_of hHeld
    have HS3 := hid_of s3
    clear hHeld hbx hkx s3
    go_wp2_with fail
    go_meet
    exact ⟨_, ga, gbb, rfl, HLK, HS3.out, HKX⟩
   ·have hmk := makeBool wd n (by omega)
    go_simp
    refine hK.out _ _ (hHeld.alloc _) (fun hHeld => ?_)
    clear hK K hmk
    try simp only [Act.put, tdy]
    have hka : KF wd (wd.alloc (.cells (zbool n) 4)) := (Kept.refl _ _).alloc _
    have hba := heap_alloc_new wd (.cells (zbool n) 4)
    generalize wd.alloc (.cells (zbool n) 4) = wa at *
    have hmk := makeInt wa n (by omega)
    refine rdy 3 rfl (fun K hK => ?_)
    go_simp
    refine hK.out _ _ (hHeld.alloc _) (fun hHeld => ?_)
    clear hK K hmk
    try simp only [Act.put, tdy]
    have hkb : KF wa (wa.alloc (.cells (zint n) 3)) := (Kept.refl _ _).alloc _
    have hbb := heap_alloc_new wa (.cells (zint n) 3)
    generalize wa.alloc (.cells (zint n) 3) = wb at *
    have hba2 := box_kept hkb hba id
    have s1 : W.heap.size ≤ wd.heap.size := hKd.size
    have s2 : wd.heap.size ≤ wa.heap.size := hka.size
    clear hba
    generalize wd.heap.size = ga at *
    generalize wa.heap.size = gbb at *
    have HBA := hid_of hba2
    have HBB := hid_of hbb
    have HS1 := hid_of s1
    have HS2 := hid_of s2
    have HKd := hid_of hKd
    clear hba2 hbb s1 s2 hka hkb hKd
    refine tkp (v := .agg #[.int .i64 mem, .slice dao nd dc, .slice (some ⟨pg, po, none⟩) nf fc, .int .i64 (q : Int), .slice (some ⟨gbb, 0, none⟩) n n, .slice (some ⟨ga, 0, none⟩) n n]) 6 rfl ?_ ?_
    ·intro w hSw; exact exec127 _ _ w mem (q : Int) dao (some ⟨pg, po, none⟩) nd dc nf fc n gbb ga _ _ _ _ rfl rfl rfl rfl rfl
    try simp only [Act.put, tdy]
    have hbx := heap_alloc_new wb (.cells #[.int .i64 mem, .slice dao nd dc, .slice (some ⟨pg, po, none⟩) nf fc, .int .i64 (q : Int), .slice (some ⟨gbb, 0, none⟩) n n, .slice (some ⟨ga, 0, none⟩) n n] 127)
    have hkx : KF wb (wb.alloc (.cells #[.int .i64 mem, .slice dao nd dc, .slice (some ⟨pg, po, none⟩) nf fc, .int .i64 (q : Int), .slice (some ⟨gbb, 0, none⟩) n n, .slice (some ⟨ga, 0, none⟩) n n] 127)) := (Kept.refl _ _).alloc _
    have s3 := hHeld.size
    have HLK := hid_of (lk_new wb _ W.heap.size n gbb ga _ (box_kept hkx HBB.out id) (box_kept hkx HBA.out id) wb.heap.size hbx (by have h1 := HS1.out; have h2 := HS2.out; omega) (by have h1 := HS1.out; have h2 := HS2.out; omega) (by omega))
    refine rdy 7 rfl (fun K hK => ?_)
    go_simp
    refine hK.out _ _ (hHeld.alloc _) (fun hHeld => ?_)
    clear hK K
    try simp only [Act.put, tdy]
    iterate 1
     refine tkn (v := ?_) 8 rfl ?_ ?_; rotate_left 1
     ·intro w hSw; go_simp; try with_reducible rfl
     try simp only [Act.put, tdy]
    refine wpAnyH_done (by kernel_rfl) ?_ _
    have HKX := hid_of hHeld
    have HS3 := hid_of s3
    clear hHeld hbx hkx s3
    go_wp2_with fail
    go_meet
    exact ⟨_, gbb, ga, rfl, HLK, HS3.out, HKX⟩
 case rest =>
  as_aux_lemma =>
   obtain ⟨g, gh, gw, rfl, HLK, hgW, HK2⟩ := hcut
   obtain ⟨w2, hw2⟩ := nmd (wc)
   subst hw2
   obtain ⟨ap1, ap2, ap3⟩ := HLK.out.apart
   have hgh : W.heap.size ≤ gh := (HLK.out.hh.lt gh rfl).1
   have hgw : W.heap.size ≤ gw := (HLK.out.ww.lt gw rfl).1
   have HP0 : Hid (∀ j, j < n → (List.replicate n (0 : Int)).getD j 0 = if j = 0 then 0 else if j < 1 then -1 else 0) := fun j hj => by
    have e : (List.replicate n (0 : Int)).getD j 0 = 0 := by simp [List.getD, hj]
    rw [e]
    split
    ·rfl
    ·rw [if_neg (by omega)]
   go_wp2_with fail
   go_loopw [8] (fun iv wr => ∃ (k : Nat) (hk : List Int), 1 ≤ k ∧ k ≤ n ∧ iv = .int .i64 (k : Int) ∧ Hid (LkAt wr W.heap.size g gh gw n #[.int .i64 mem, .slice dao nd dc, .slice (some ⟨pg, po, none⟩) nf fc, .int .i64 (q : Int), .slice (some ⟨gh, 0, none⟩) n n, .slice (some ⟨gw, 0, none⟩) n n] hk (List.replicate n false)) ∧ Hid (∀ j, j < n → hk.getD j 0 = if j = 0 then 0 else if j < k then -1 else 0) ∧ Hid (KF W wr)) (fun iv _ => n - (intOf iv).toNat)
   case atStart => exact ⟨1, _, by omega, by omega, rfl, HLK, HP0, HK2⟩
   case round =>
    clear HLK HP0 HK2
    obtain ⟨k, hk, hk1, hkn, rfl, HLK, HP, HKR⟩ := hrel
    obtain ⟨a0, a1, a2, a3, a4, a5⟩ := look6k HLK.out.box
    by_cases hlt : k < n
    ·have hltI : (k : Int) < (n : Int) := by omega
     obtain ⟨c1, c2⟩ := HLK.out.cellH hlt
     have HL2 := hid_of (HLK.out.setH k (-1))
     have HP2 : Hid (∀ j, j < n → (hk.set k (-1)).getD j 0 = if j = 0 then 0 else if j < k + 1 then -1 else 0) := fun j hj => by
      rw [set_getD (by rw [HLK.out.hl]; exact hlt), HP.out j hj]
      by_cases e : k = j
      ·rw [if_pos e, if_neg (by omega), if_pos (by omega)]
      ·rw [if_neg e]
       by_cases e0 : j = 0
       ·rw [if_pos e0, if_pos e0]
       ·rw [if_neg e0, if_neg e0]
        by_cases e1 : j < k
        ·rw [if_pos e1, if_pos (by omega)]
        ·rw [if_neg e1, if_neg (by omega)]
     have HK3 : Hid (KF W (wr.setCell ⟨gh, k, none⟩ (.int .i64 (-1)))) := HKR.out.step (kept_set wr gh k (.int .i64 (-1))) (fun i hi e => by omega)
     clear a0 a1 a2 a3 a5
     go_wp2
     go_roundw
     case rel => exact ⟨k + 1, _, by omega, by omega, by go_num, HL2, HP2, HK3⟩
     case measure => simp [intOf]; omega
    ·have hltI : ¬ ((k : Int) < (n : Int)) := by omega
     have hkk : k = n := by omega
     have HHS : Hid (hk = (List.replicate n (-1)).set 0 0) := by
      unfold Hid
      apply List.ext_getElem
      ·simp [HLK.out.hl]
      ·intro j h1 h2
       have hj : j < n := by rw [← HLK.out.hl]; exact h1
       have e1 : hk[j] = hk.getD j 0 := by simp [List.getD, List.getElem?_eq_getElem h1]
       have e2 : ((List.replicate n (-1 : Int)).set 0 0)[j] = ((List.replicate n (-1 : Int)).set 0 0).getD j 0 := by simp [List.getD, List.getElem?_eq_getElem h2]
       rw [e1, e2, HP.out j hj, set_getD (by simp; omega)]
       by_cases e0 : j = 0
       ·rw [if_pos e0, if_pos e0.symm]
       ·rw [if_neg e0, if_neg (Ne.symm e0), if_pos (by omega)]
        simp [List.getD, hj]
     obtain ⟨c1, c2⟩ := HLK.out.cellW (i := 0) (by omega)
     have hL0 := HLK.out.setW 0 true
     have HK0 : Hid (KF W (wr.setCell ⟨gw, 0, none⟩ (.bool true))) := HKR.out.step (kept_set wr gw 0 (.bool true)) (fun i hi e => by omega)
     rw [HHS.out] at hL0
     have HL0 := hid_of hL0
     have hn0I : (0 : Int) < (n : Int) := by omega
     clear a0 a1 a2 a3 a4 hL0 hkk HHS HP
     go_wp2_with fail
     clear a5 c1 c2 hltI hlt hkn hk1
     generalize wr.setCell ⟨gw, 0, none⟩ (.bool true) = w3 at *
     have HJ0 := hid_of (start_rel n hn1)
     have HI0 := hid_of (IH.start n hn1)
     have HM0 : Hid (((List.replicate n (-1 : Int)).set 0 0).count (-1) + [(0 : Int)].length ≤ n) := HI0.out.cnt
     have HR0 : Hid (heightsD (stepsL p f') n = runH (stepsL p f') n (n + 1) ((List.replicate n (-1)).set 0 0) [0]) := rfl
     go_loopg [9] n (fun gk lv wr => ∃ (hs l : List Int) (ws : List Bool), Hid (LkAt wr W.heap.size g gh gw n #[.int .i64 mem, .slice dao nd dc, .slice (some ⟨pg, po, none⟩) nf fc, .int .i64 (q : Int), .slice (some ⟨gh, 0, none⟩) n n, .slice (some ⟨gw, 0, none⟩) n n] hs ws) ∧ Hid (JW n hs l ws) ∧ Hid (IH n hs l) ∧ Hid (hs.count (-1) + l.length ≤ gk) ∧ Hid (∃ fu, gk < fu ∧ heightsD (stepsL p f') n = runH (stepsL p f') n fu hs l) ∧ Hid (KF W wr))
     case atStart => exact ⟨_, _, _, HL0, HJ0, HI0, HM0, ⟨n + 1, by omega, HR0.out⟩, HK0⟩
     case round =>
      clear HL0 HJ0 HI0 HM0 HR0 HK0
      obtain ⟨hs, l, ws, HL, HJ, HIH, HMC, HRF, HKR⟩ := hrel
      go_wp2_with fail
      go_loopw [9] (fun iv wi => ∃ j : Nat, j ≤ n ∧ iv = .int .i64 (j : Int) ∧ wi = wr ∧ Hid (∀ j', j' < j → ws.getD j' false = false)) (fun iv _ => n - (intOf iv).toNat)
      case atStart => exact ⟨0, by omega, rfl, rfl, fun j hj => by omega⟩
      case round =>
       obtain ⟨j, hjn, rfl, hwi, HLO⟩ := hrel
       have hwi' := hwi.symm
       clear hwi
       subst hwi'
       obtain ⟨a0, a1, a2, a3, a4, a5⟩ := look6k HL.out.box
       clear a0 a1 a2 a3
       by_cases hlt : j < n
       ·have hltI : (j : Int) < (n : Int) := by omega
        obtain ⟨c1, c2⟩ := HL.out.cellW hlt
        cases hb : ws.getD j false with
        | false =>
         rw [hb] at c1
         have HLO2 : Hid (∀ j', j' < j + 1 → ws.getD j' false = false) := fun j' hj' => by
          by_cases e : j' = j
          ·rw [e]; exact hb
          ·exact HLO.out j' (by omega)
         clear hb
         go_wp2
         go_roundw
         case rel => exact ⟨j + 1, by omega, by go_num, trivial, HLO2⟩
         case measure => simp [intOf]; omega
        | true =>
         rw [hb] at c1
         obtain ⟨hp0, hp1, hp2⟩ := pop_rel HJ.out hlt hb HLO.out
         have hjl : (j : Int) ∈ l := (HJ.out.rw'.2.2 j hlt).1 hb
         obtain ⟨_, _, r0, r1⟩ := HIH.out.el _ hjl
         rw [Int.toNat_natCast] at r0 r1
         have hjc : j < f'.code.length := by rw [← HN.out]; exact hlt
         obtain ⟨xx, hx⟩ : ∃ z, f'.code[j]? = some z := ⟨_, List.getElem?_eq_getElem hjc⟩
         have hss := steps_at (p := p) hx
         have hnx := (HOK.out.nx _ (List.mem_of_getElem? hss)).1
         rw [← HN.out] at hnx
         have HRU : Hid (∃ fu, gk ≤ fu ∧ heightsD (stepsL p f') n = if faultS (stepAt p f' j xx) (hs.getD j 0) n ≠ 0 then .error ((j : Int), faultS (stepAt p f' j xx) (hs.getD j 0) n) else match joinH (behindS (stepAt p f' j xx) (hs.getD j 0)) (stepAt p f' j xx).nx hs (popL l).2 with
           | none => .error ((j : Int), 136)
           | some r => runH (stepsL p f') n fu r.1 r.2) := by
          obtain ⟨fu, hfu, he⟩ := HRF.out
          obtain ⟨fv, rfl⟩ : ∃ fv, fu = fv + 1 := ⟨fu - 1, by omega⟩
          exact ⟨fv, by omega, by rw [he, run_one HJ.out hlt hb HLO.out hss fv]⟩
         have HPOP := hid_of hp2
         obtain ⟨hi1, _, hi3⟩ := HIH.out.pop hp0
         have HI1 := hid_of hi1
         have HI3 : Hid (hs.count (-1) + (popL l).2.length + 1 ≤ gk) := by have := HMC.out; unfold Hid; omega
         have hL4 := HL.out.setW j false
         have HK4 : Hid (KF W (wr.setCell ⟨gw, j, none⟩ (.bool false))) := HKR.out.step (kept_set wr gw j (.bool false)) (fun i hi e => by omega)
         have HTA := hid_of (taken_ref p B HO.out HCK.out HAL.out q f' HF.out j xx hx W.heap.size g gh gw n nd dc nf fc mem dao (some ⟨pg, po, none⟩) _ (HPG.out _ HK4.out).1 (HPG.out _ HK4.out).2 HN.out hs _ hL4 r0 r1 hnx)
         have HNX := hid_of hnx
         have HFB : Hid (faultS (stepAt p f' j xx) (hs.getD j 0) n = 0 → (∀ m ∈ (stepAt p f' j xx).nx, 0 ≤ m ∧ m < n) ∧ 0 ≤ behindS (stepAt p f' j xx) (hs.getD j 0) ∧ behindS (stepAt p f' j xx) (hs.getD j 0) ≤ 256) := fun hz => by
          have hsm := List.mem_of_getElem? hss
          have hnx' := hnx
          have h9 := fault_zero (HOK.out.stb _ hsm) (HOK.out.cp _ hsm) (n := (n : Int)) (fun m hm => hnx' m hm) hz
          exact ⟨h9.2.2, h9.1, h9.2.1⟩
         clear hp0 hp1 hp2 hjl r0 r1 hx hss hnx hi1 hi3 hL4 hb hjc
         go_upto_region 14 with fail
         clear a4 a5 c1 c2
         generalize wr.setCell ⟨gw, j, none⟩ (.bool false) = w4 at *
         have hgkp : 1 ≤ gk := by have := HI3.out; omega
         go_wp2_with fail
         refine HTA.out.mono ?_
         rintro e w5 ⟨hk5, hcase⟩
         have HK5 : Hid (KF W w5) := HK4.out.step hk5 (fun i hi e => by omega)
         clear hk5 HTA
         obtain ⟨sA, hsA⟩ := nmd (stepAt p f' j xx)
         rw [← hsA] at HRU HFB hcase
         obtain ⟨hA, hhA⟩ := nmd (hs.getD j 0)
         rw [← hhA] at HRU HFB hcase
         clear hsA hhA
         rcases hcase with ⟨hne, rfl⟩ | ⟨hz, hcl, rfl⟩ | ⟨hz, hcl, rfl, hL5⟩
         ·as_aux_lemma =>
           have HEN : Hid (heightsD (stepsL p f') n = .error ((j : Int), faultS sA hA n)) := by
            obtain ⟨fu, hfu, he⟩ := HRU.out
            unfold Hid
            rw [he, if_pos hne]
           have e1 : (faultS sA hA n != 0) = true := by simpa using hne
           generalize faultS sA hA n = er at *
           clear hne HRU HFB
           have hb9 := box_kept HK5.out HB2.out id
           obtain ⟨hx9, hkx⟩ := set3 w5 (gb + 1) 38 _ _ _ (.int .i64 er) (.int .i64 (q : Int)) (.int .i64 (j : Int)) hb9
           have HX := hid_of hx9
           have HKX := hid_of ((HKW.out.trans HK5.out).step hkx (fun i hi e => by have := HGB.out; omega))
           obtain ⟨d0, d1, d2, y0, y1, y2⟩ := look3 hb9
           clear hx9 hkx hb9
           go_wp2
           refine bodyPost_ret (v := .tuple #[.slice none 0 0, .agg #[.int .i64 er, .int .i64 (q : Int), .int .i64 (j : Int)]]) ?_ rfl ⟨HKX.out, ?_⟩
           ·exact results_tc (by rfl) _ _ (gb + 1) _ _ _ _ (by rfl) (by rfl) HX.out
           ·rw [← HN.out, HEN.out]
         ·as_aux_lemma =>
           have HEN : Hid (heightsD (stepsL p f') n = .error ((j : Int), 136)) := by
            obtain ⟨fu, hfu, he⟩ := HRU.out
            obtain ⟨q1, q2, q3⟩ := HFB.out hz
            unfold Hid
            rw [he, if_neg (by simpa using hz)]
            cases hj : joinH (behindS sA hA) sA.nx hs (popL l).2 with
            | none => rfl
            | some r => exact absurd hcl ((join_rel n _ (by omega) _ _ _ _ q1 HPOP.out).1 r hj).1
           clear hz hcl HRU HFB
           have hb9 := box_kept HK5.out HB2.out id
           obtain ⟨hx9, hkx⟩ := set3 w5 (gb + 1) 38 _ _ _ (.int .i64 136) (.int .i64 (q : Int)) (.int .i64 (j : Int)) hb9
           have HX := hid_of hx9
           have HKX := hid_of ((HKW.out.trans HK5.out).step hkx (fun i hi e => by have := HGB.out; omega))
           obtain ⟨d0, d1, d2, y0, y1, y2⟩ := look3 hb9
           clear hx9 hkx hb9
           go_wp2
           refine bodyPost_ret (v := .tuple #[.slice none 0 0, .agg #[.int .i64 136, .int .i64 (q : Int), .int .i64 (j : Int)]]) ?_ rfl ⟨HKX.out, ?_⟩
           ·exact results_tc (by rfl) _ _ (gb + 1) _ _ _ _ (by rfl) (by rfl) HX.out
           ·rw [← HN.out, HEN.out]
         ·as_aux_lemma =>
           obtain ⟨q1, q2, q3⟩ := HFB.out hz
           obtain ⟨u1, u2⟩ := join_rel n _ (show behindS sA hA ≠ -1 by omega) _ _ _ _ q1 HPOP.out
           cases hj : joinH (behindS sA hA) sA.nx hs (popL l).2 with
           | none => exact absurd (u2 hj) hcl
           | some r =>
            obtain ⟨_, v1, v2⟩ := u1 r hj
            obtain ⟨i1, i2⟩ := join_IH n _ ⟨q2, q3⟩ _ _ _ r q1 HI1.out hj
            rw [← v1] at hL5
            have HL5 := hid_of hL5
            have HJ5 := hid_of v2
            have HI5 := hid_of i1
            have HM5 : Hid (r.1.count (-1) + r.2.length ≤ gk - 1) := by have := HI3.out; unfold Hid; omega
            have HR5 : Hid (∃ fu, gk - 1 < fu ∧ heightsD (stepsL p f') n = runH (stepsL p f') n fu r.1 r.2) := by
             obtain ⟨fu, hfu, he⟩ := HRU.out
             exact ⟨fu, by omega, by rw [he, if_neg (by simpa using hz), hj]⟩
            clear hz hcl HRU HFB u1 u2 v1 v2 i1 i2 hL5 hj q1 q2 q3
            go_wp2
            go_roundg (gk - 1)
            case rel => exact ⟨_, _, _, HL5, HJ5, HI5, HM5, HR5, HK5⟩
            case measure => omega
       ·have hltI : ¬ ((j : Int) < (n : Int)) := by omega
        have hjj : j = n := by omega
        subst hjj
        have HEN : Hid (heightsD (stepsL p f') j = .ok hs) := by
         unfold Hid
         obtain ⟨fu, hfu, he⟩ := HRF.out
         obtain ⟨fv, rfl⟩ : ∃ fv, fu = fv + 1 := ⟨fu - 1, by omega⟩
         rw [he, runH, if_pos (none_rel HJ.out HLO.out)]
        have hb9 := box_kept HKR.out HB2.out id
        obtain ⟨hx9, hkx⟩ := set3 wr (gb + 1) 38 _ _ _ (.int .i64 0) (.int .i64 0) (.int .i64 0) hb9
        have HX := hid_of hx9
        have HKX := hid_of ((HKW.out.trans HKR.out).step hkx (fun i hi e => by have := HGB.out; omega))
        have HOH := hid_of (hkx.ownsRow HL.out.hh (fun q' hq' e => by
         simp [Value.ownBlock] at hq'
         have h9 := (Array.getElem?_eq_some_iff.1 HB2.out).1
         omega))
        obtain ⟨d0, d1, d2, y0, y1, y2⟩ := look3 hb9
        clear hx9 hkx hb9
        go_wp2
        refine bodyPost_ret (v := .tuple #[.slice (some ⟨gh, 0, none⟩) j j, .agg #[.int .i64 0, .int .i64 0, .int .i64 0]]) ?_ rfl ⟨HKX.out, ?_⟩
        ·exact results_tc (by rfl) _ _ (gb + 1) _ _ _ _ (by rfl) (by rfl) HX.out
        ·rw [← HN.out, HEN.out]
         refine ⟨_, rfl, ?_⟩
         have h9 := HOH.out
         unfold OwnN
         rw [HL.out.hl]
         exact own_mono h9 HB0.out
end Go.Proofs.YtcaadgcfceommaaGreat

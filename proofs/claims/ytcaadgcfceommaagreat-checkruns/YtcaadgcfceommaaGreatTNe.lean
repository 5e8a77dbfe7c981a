import Derived.Test.YtcaadgcfceommaaGreatTNd
namespace Go.Proofs.YtcaadgcfceommaaGreat
open Go.ChangeShapes Go.WideShapes Go.ChangeAt Go.RowKit Go.Deep
set_option linter.unusedVariables false
set_option linter.unusedSimpArgs false
set_option maxRecDepth 100000
theorem there_set {w : World} {b' o' n : Nat} (h : w.there b' o' n) (b o : Nat) (u : Value) : (w.setCell ⟨b, o, none⟩ u).there b' o' n := by
 have := World.there_setCells h b o [u]
 simpa [World.setCells] using this
theorem there_own {w : World} {base e s n g m c : Nat} {xs : List Value} (h : w.ownsRow base e s (.slice (some ⟨g, 0, none⟩) m c) n xs) (k : Nat) (hk : k ≤ n * s) : w.there g 0 k := fun j hj => by
 have h1 := h.1
 obtain ⟨rfl, _⟩ := own_cap h
 rw [Nat.zero_add]
 refine ⟨?_, World.ownsRow.frozenAt h _⟩
 rw [h.cellAt _ (by omega), List.getElem?_eq_getElem (by omega)]
 rfl
theorem there_at {w : World} {g n i : Nat} (h : w.there g 0 n) (hi : i < n) : (∃ u, w.cell? ⟨g, i, none⟩ = some u) ∧ w.frozen? ⟨g, i, none⟩ = false := by
 have h1 := h i hi
 rw [Nat.zero_add] at h1
 exact ⟨Option.isSome_iff_exists.1 h1.1, h1.2⟩
structure SpQ (w wr : World) (gx : Nat) (bx : Array Value) (gd gf nd nf : Nat) (cvs : List Value) (m : Nat) : Prop where
 box : wr.heap[gx]? = some (.cells bx 25 (0, 0))
 dth : wr.there gd 0 nd
 fth : wr.there gf 0 (nf * 4)
 hdr : ∀ (i : Nat) (cv : Value), m ≤ i → cvs[i]? = some cv → wr.cell? ⟨gf, i * 4 + 3, none⟩ = some cv
 cod : ∀ cv ∈ cvs, ∃ g n c, cv = .slice (some ⟨g, 0, none⟩) n c ∧ wr.there g 0 (n * 2) ∧ g ≠ gf ∧ g ≠ gx ∧ n ≤ 100000000000000
 kept : Kept (LBlk gd gf cvs) w wr
 off : gd ≠ gx ∧ gf ≠ gx ∧ cvs.length = nf
section
variable {w wr : World} {gx : Nat} {bx : Array Value} {gd gf nd nf : Nat} {cvs : List Value} {m : Nat}
theorem SpQ.code {g n c : Nat} (h : SpQ w wr gx bx gd gf nd nf cvs m) (hc : Value.slice (some ⟨g, 0, none⟩) n c ∈ cvs) (o : Nat) (u : Value) : SpQ w (wr.setCell ⟨g, o, none⟩ u) gx bx gd gf nd nf cvs m := by
 have hks := kept_set wr g o u
 obtain ⟨g1, n1, c1, e, _, h2, h3, _⟩ := h.cod _ hc
 cases e
 refine ⟨box_kept hks h.box (fun e => h3 e.symm), there_set h.dth _ _ _, there_set h.fth _ _ _, fun i cv hi hcv => hks.cell (h.hdr i cv hi hcv) (fun e => h2 e.symm), fun cv hcv => ?_, h.kept.trans (hks.mono (fun i _ e => by subst e; exact .inr (.inr ⟨_, hc, rfl⟩))), h.off⟩
 obtain ⟨g2, n2, c2, e2, h4, h5⟩ := h.cod cv hcv
 exact ⟨g2, n2, c2, e2, there_set h4 _ _ _, h5⟩
theorem SpQ.fn (h : SpQ w wr gx bx gd gf nd nf cvs m) (o : Nat) (u : Value) (ho : ∀ i, m < i → o ≠ i * 4 + 3) : SpQ w (wr.setCell ⟨gf, o, none⟩ u) gx bx gd gf nd nf cvs (m + 1) := by
 have hks := kept_set wr gf o u
 refine ⟨box_kept hks h.box (fun e => h.off.2.1 e.symm), there_set h.dth _ _ _, there_set h.fth _ _ _, fun i cv hi hcv => ?_, fun cv hcv => ?_, h.kept.trans (hks.mono (fun i _ e => by subst e; exact .inr (.inl rfl))), h.off⟩
 ·have h1 := h.hdr i cv (by omega) hcv
  have h2 := ho i (by omega)
  rw [World.cell?_setCell_other]
  ·exact h1
  ·simp only [ne_eq, Addr.mk.injEq, not_and]
   omega
 ·obtain ⟨g2, n2, c2, e2, h4, h5⟩ := h.cod cv hcv
  exact ⟨g2, n2, c2, e2, there_set h4 _ _ _, h5⟩
theorem SpQ.fns (h : SpQ w wr gx bx gd gf nd nf cvs m) (k : Nat) (hk : m ≤ k) : SpQ w ((((wr.setCell ⟨gf, k * 4, none⟩ (.int .i64 (-5))).setCell ⟨gf, k * 4 + 1, none⟩ (.int .i64 0)).setCell ⟨gf, k * 4 + 2, none⟩ (.int .i64 0)).setCell ⟨gf, k * 4 + 3, none⟩ (.slice none 0 0)) gx bx gd gf nd nf cvs (k + 1) := by
 have hks := (((kept_set wr gf (k * 4) (.int .i64 (-5))).trans (kept_set _ gf (k * 4 + 1) (.int .i64 0))).trans (kept_set _ gf (k * 4 + 2) (.int .i64 0))).trans (kept_set _ gf (k * 4 + 3) (.slice none 0 0))
 refine ⟨box_kept hks h.box (fun e => h.off.2.1 e.symm), there_set (there_set (there_set (there_set h.dth _ _ _) _ _ _) _ _ _) _ _ _, there_set (there_set (there_set (there_set h.fth _ _ _) _ _ _) _ _ _) _ _ _, fun i cv hi hcv => ?_, fun cv hcv => ?_, h.kept.trans (hks.mono (fun i _ e => by subst e; exact .inr (.inl rfl))), h.off⟩
 ·have h1 := h.hdr i cv (by omega) hcv
  rw [World.cell?_setCell_other, World.cell?_setCell_other, World.cell?_setCell_other, World.cell?_setCell_other]
  ·exact h1
  all_goals simp only [ne_eq, Addr.mk.injEq, not_and]
  all_goals omega
 ·obtain ⟨g2, n2, c2, e2, h4, h5⟩ := h.cod cv hcv
  exact ⟨g2, n2, c2, e2, there_set (there_set (there_set (there_set h4 _ _ _) _ _ _) _ _ _) _ _ _, h5⟩
theorem SpQ.dat (h : SpQ w wr gx bx gd gf nd nf cvs m) (hm : cvs.length ≤ m) (o : Nat) (u : Value) : SpQ w (wr.setCell ⟨gd, o, none⟩ u) gx bx gd gf nd nf cvs m := by
 have hks := kept_set wr gd o u
 refine ⟨box_kept hks h.box (fun e => h.off.1 e.symm), there_set h.dth _ _ _, there_set h.fth _ _ _, fun i cv hi hcv => ?_, fun cv hcv => ?_, h.kept.trans (hks.mono (fun i _ e => by subst e; exact .inl rfl)), h.off⟩
 ·have := (List.getElem?_eq_some_iff.1 hcv).1
  omega
 ·obtain ⟨g2, n2, c2, e2, h4, h5⟩ := h.cod cv hcv
  exact ⟨g2, n2, c2, e2, there_set h4 _ _ _, h5⟩
end
set_option maxHeartbeats 16000000 in
theorem held_q (base gd dl gf fl : Nat) (cvs : List Value) (v : Value) (p : PG) (w : World) (B : Nat) (hl : LentQ base w gd dl gf fl p cvs) (h : PgIs w B v p) (hB : B ≤ base) (hbase : base ≤ w.heap.size) (ho : p.Ok) :
  Calls Tryz.prog 13 #[lentQ p gd dl gf fl, v] w fun e w' => e = .returned (.bool true) ∧ Kept (LBlk gd gf cvs) w w' := by
 have hpg := h
 obtain ⟨dv, fv, rfl, hd, hdl, hf⟩ := h
 obtain ⟨dao, dc, rfl⟩ := hd.shape
 obtain ⟨fao, fc, rfl⟩ := hf.shape
 have hlv : lentQ p gd dl gf fl = .agg #[.int .i64 p.mem, .slice (some ⟨gd, 0, none⟩) p.data.length dl, .slice (some ⟨gf, 0, none⟩) p.fns.length fl] := rfl
 have hpl := hl.pg
 obtain ⟨nd, hnd⟩ := nmd (p.data.length)
 obtain ⟨nf, hnf⟩ := nmd (p.fns.length)
 obtain ⟨mem, hmem⟩ := nmd (p.mem)
 rw [← hnf] at hf
 rw [hlv] at hpl ⊢
 rw [← hmem, ← hnd, ← hnf] at hpl ⊢
 rw [← hmem, ← hnd, ← hnf] at hpg
 have hbd := ho.data.2
 have hlf := ho.len
 rw [← hnd] at hbd
 rw [← hnf] at hlf
 have hndI : (nd : Int) ≤ 140737488351232 := by omega
 have hnfI : (nf : Int) ≤ 140737488351232 := by omega
 obtain ⟨gx, hgx⟩ := nmd (w.heap.size)
 obtain ⟨W, hW⟩ := nmd ((w.alloc (.cells #[.int .i64 mem, .slice (some ⟨gd, 0, none⟩) nd dl, .slice (some ⟨gf, 0, none⟩) nf fl] 25)).alloc (.cells #[.int .i64 mem, .slice dao nd dc, .slice fao nf fc] 25))
 obtain ⟨k1, x1, x2⟩ := allocs2 _ _ _ _ _ _ hW
 rw [← hgx] at x1 x2
 have HSM : Hid (∀ W', KF W W' → Calls Tryz.prog 37 #[.agg #[.int .i64 mem, .slice (some ⟨gd, 0, none⟩) nd dl, .slice (some ⟨gf, 0, none⟩) nf fl], .agg #[.int .i64 mem, .slice dao nd dc, .slice fao nf fc]] W' fun e w' => e = .returned (.bool true) ∧ KF W' w') := fun W' hW' => by
  have hS := rsame_any _ _ p p W' w.heap.size ((hpl.kept k1 (fun _ _ f => f)).kept hW' (fun _ _ f => f)) (((hpg.kept k1 (fun _ _ f => f)).kept hW' (fun _ _ f => f)).up (Nat.le_trans hB hbase)) (Nat.le_trans k1.size hW'.size) ho ho
  rw [sameP_refl] at hS
  exact hS
 have HGX := hid_of hgx
 have hlW := hl.kept k1 (fun _ _ f => f)
 have hcd := (own_cap hlW.dat).2
 have hcf := (own_cap hlW.rows.row).2
 rw [← hnd] at hcd
 rw [← hnf] at hcf
 have hcdI : (nd : Int) + 1 ≤ (dl : Int) := by omega
 have hcfI : (nf : Int) + 1 ≤ (fl : Int) := by omega
 have hn1 : ((nd : Int) + 1).toNat = nd + 1 := by omega
 have hw1 : IntKind.i64.wrap ((nd : Int) + 1) = (nd : Int) + 1 := by simp [IntKind.wrap, IntKind.bits, IntKind.signed]; omega
 have hw2 : IntKind.i64.wrap ((nf : Int) + 1) = (nf : Int) + 1 := by simp [IntKind.wrap, IntKind.bits, IntKind.signed]; omega
 have hp1 : (0 : Int) ≤ (nd : Int) + 1 := by omega
 have hp2 : (0 : Int) ≤ (nf : Int) + 1 := by omega
 have hq1 : (nd : Int) < (nd : Int) + 1 := by omega
 have hq2 : (nf : Int) < (nf : Int) + 1 := by omega
 have hn2 : ((nf : Int) + 1).toNat = nf + 1 := by omega
 have HSX : Hid (∀ w', KF W w' → w'.cell? ⟨gx, 0, none⟩ = some (.int .i64 mem) ∧ w'.cell? ⟨gx, 1, none⟩ = some (.slice (some ⟨gd, 0, none⟩) nd dl) ∧ w'.cell? ⟨gx, 2, none⟩ = some (.slice (some ⟨gf, 0, none⟩) nf fl) ∧ w'.cell? ⟨gx + 1, 0, none⟩ = some (.int .i64 mem) ∧ w'.cell? ⟨gx + 1, 1, none⟩ = some (.slice dao nd dc) ∧ w'.cell? ⟨gx + 1, 2, none⟩ = some (.slice fao nf fc) ∧ w'.cell? ⟨gd, nd, none⟩ = some (.int .u8 169) ∧ w'.cell? ⟨gf, nf * 4, none⟩ = some (.int .i64 (-7))) := fun w' hw => by
  refine ⟨hw.cell (cell_block _ _ 0 _ _ _ x1) id, hw.cell (cell_block _ _ 1 _ _ _ x1) id, hw.cell (cell_block _ _ 2 _ _ _ x1) id, hw.cell (cell_block _ _ 0 _ _ _ x2) id, hw.cell (cell_block _ _ 1 _ _ _ x2) id, hw.cell (cell_block _ _ 2 _ _ _ x2) id, hw.cell ?_ id, hw.cell ?_ id⟩
  ·rw [hlW.dat.cellAt _ (by omega), List.getElem?_append_right (by simp; omega)]
   simp [hnd]
  ·rw [hlW.rows.row.cellAt _ (by omega), List.getElem?_append_right (by rw [fcells_len _ _ hlW.rows.len]; omega), fcells_len _ _ hlW.rows.len, hnf, Nat.sub_self]
   rfl
 have HL := hid_of hlW
 have HF := hid_of (hf.kept k1 (fun _ _ f => f))
 have HO := hid_of ho
 have HNF := hid_of hnf
 have HND := hid_of hnd
 have HKA := hid_of k1
 have HBX := hid_of x1
 have HBS := hid_of hbase
 have HBB := hid_of hB
 clear hpg hd hdl hf ho hnf hnd hmem hB k1 x1 x2 hl hpl hlv hlW hbase hcd hcf
 go_enter Tryz.func13, Tryz.ntmps13
 go_upto_region 1 with fail
 rw [← hW, ← hgx]
 clear hW hgx
 refine wp_region_held_drew (S := fun w' => KF W w') (by kernel_rfl) ((Kept.refl _ _).drew) (fun hHeld => ?_)
 iterate 2
  refine tkn (v := ?_) 0 rfl ?_ ?_; rotate_left 1
  ·intro w hSw; obtain ⟨a0, a1, a2, b0, b1, b2, m1, m2⟩ := HSX.out w hSw; go_simp; try with_reducible rfl
  try simp only [Act.put, tdy]
 refine rdy 2 rfl (fun K hK => ?_)
 go_simp
 refine (HSM.out _ hHeld).mono ?_
 rintro e w2 ⟨rfl, hk2⟩
 refine hK.out _ _ (hHeld.trans hk2) (fun hHeld => ?_)
 clear hK K
 try simp only [Act.put, tdy]
 iterate 32
  refine tkn (v := ?_) 3 rfl ?_ ?_; rotate_left 1
  ·intro w hSw; obtain ⟨a0, a1, a2, b0, b1, b2, m1, m2⟩ := HSX.out w hSw; go_simp; try with_reducible rfl
  try simp only [Act.put, tdy]
 refine wpAnyH_done (by kernel_rfl) ?_ _
 have HKN := hid_of (HKA.out.trans hHeld)
 have HKW2 := hid_of hHeld
 obtain ⟨a0, a1, a2, b0, b1, b2, _, _⟩ := HSX.out _ hHeld
 clear hk2 hHeld HSX HSM hw1 hw2 hp1 hp2 hq1 hq2 hn1 hn2 hcdI hcfI a0 b0 b1
 go_wp2_with fail
 go_loop [5, 6] (fun ok i => ∃ k : Nat, k ≤ nf ∧ ok = .bool true ∧ i = .int .i64 (k : Int)) (fun _ i => nf - (intOf i).toNat)
 case atStart => exact ⟨0, by omega, rfl, rfl⟩
 case round =>
  obtain ⟨k, hk, rfl, rfl⟩ := hrel
  by_cases hlt : k < nf
  ·have hltI : (k : Int) < (nf : Int) := by omega
   have hlk : k < p.fns.length := by rw [← HNF.out]; exact hlt
   obtain ⟨pg, po, f, e1, hgB, hfi, hfa⟩ := HF.out.at (i := k) (by rw [← HNF.out]; exact hlt)
   subst e1
   obtain ⟨cao, cc, x0, x1, x2, x3, hri, hcl⟩ := fn_read hfa
   have hlc := (HO.out.fns f (List.mem_of_getElem? hfi)).len
   obtain ⟨nc, hnc⟩ := nmd (f.code.length)
   obtain ⟨cv, hcv⟩ : ∃ cv, cvs[k]? = some cv := ⟨_, List.getElem?_eq_getElem (by rw [HL.out.rows.len]; exact hlk)⟩
   obtain ⟨g, c, rfl, hown⟩ := HL.out.rows.mark k f _ hlk hfi hcv
   have z3 : W.cell? ⟨gf, k * 4 + 3, none⟩ = some (.slice (some ⟨g, 0, none⟩) nc c) := by
    rw [HL.out.rows.row.cellAt _ (by omega), List.getElem?_append_left (by rw [fcells_len _ _ HL.out.rows.len]; omega), fcells_at _ _ _ _ _ hfi hcv 3 (by omega), hnc]
    rfl
   have y0 : W.cell? ⟨g, nc * 2, none⟩ = some (.int .i64 (-7)) := by
    rw [hnc, hown.cellAt _ (by omega), List.getElem?_append_right (by rw [icells_length]; omega), icells_length, show f.code.length * 2 - 2 * f.code.length = 0 by omega]
    rfl
   have hcc := (own_cap hown).2
   rw [← hnc] at hcc x3 hlc
   have hccI : (nc : Int) + 1 ≤ (c : Int) := by omega
   have hncI : (nc : Int) ≤ 140737488351232 := by omega
   have hn9 : ((nc : Int) + 1).toNat = nc + 1 := by omega
   have hq9 : (nc : Int) < (nc : Int) + 1 := by omega
   have hp9 : (0 : Int) ≤ (nc : Int) + 1 := by omega
   have x3w := HKW2.out.cell x3 id
   have z3w := HKW2.out.cell z3 id
   have y0w := HKW2.out.cell y0 id
   clear x0 x1 x2 x3 z3 y0 hri hcl hfa hfi hcv hown hnc hcc hlk
   go_wp2
   go_round
   case rel => exact ⟨k + 1, by omega, rfl, by go_num⟩
   case measure => simp [intOf]; omega
  ·have hltI : ¬ ((k : Int) < (nf : Int)) := by omega
   have HSP : Hid (SpQ w w2 gx #[.int .i64 mem, .slice (some ⟨gd, 0, none⟩) nd dl, .slice (some ⟨gf, 0, none⟩) nf fl] gd gf nd nf cvs 0) := by
    have hlq := HL.out.kept HKW2.out (fun _ _ f => f)
    have hbx := box_kept HKW2.out HBX.out id
    have hb2 := fun q (hq : LBlk gd gf cvs q) => (HL.out.blk hq)
    have hrl := hlq.rows.len
    refine ⟨hbx, there_own hlq.dat _ (by have := HND.out; omega), there_own hlq.rows.row _ (by have := HNF.out; omega), fun i cv _ hcv => ?_, fun cv hcv => ?_, HKN.out.mono (fun _ _ f => f.elim), ⟨fun e => own_box hlq.dat hbx (by decide) (by rw [e]; rfl), fun e => own_box hlq.rows.row hbx (by decide) (by rw [e]; rfl), by rw [HNF.out]; exact hrl⟩⟩
    ·have hi : i < p.fns.length := by rw [← hrl]; exact (List.getElem?_eq_some_iff.1 hcv).1
     rw [hlq.rows.row.cellAt _ (by omega), List.getElem?_append_left (by rw [fcells_len _ _ hrl]; omega), fcells_at _ _ _ _ _ (List.getElem?_eq_getElem hi) hcv 3 (by omega)]
     rfl
    ·obtain ⟨i, hi, e⟩ := List.mem_iff_getElem.1 hcv
     have hip : i < p.fns.length := by rw [← hrl]; exact hi
     obtain ⟨g, c, e2, hown⟩ := hlq.rows.mark i _ cv hip (List.getElem?_eq_getElem hip) (by rw [List.getElem?_eq_getElem hi, e])
     have hlc := (HO.out.fns _ (List.getElem_mem hip)).len
     exact ⟨g, _, c, e2, there_own hown _ (by omega), fun e9 => own_unlike hown hlq.rows.row (by decide) g rfl (by rw [e9]; rfl), fun e9 => own_box hown hbx (by decide) (by rw [e9]; rfl), by omega⟩
   clear HL HF HO HBX HKN HKW2
   go_wp2_with fail
   clear a1 a2 b2
   go_loopw [8] (fun i wr => ∃ m : Nat, m ≤ nf ∧ i = .int .i64 (m : Int) ∧ Hid (SpQ w wr gx #[.int .i64 mem, .slice (some ⟨gd, 0, none⟩) nd dl, .slice (some ⟨gf, 0, none⟩) nf fl] gd gf nd nf cvs m)) (fun i _ => nf - (intOf i).toNat)
   case atStart => exact ⟨0, by omega, rfl, HSP⟩
   case round =>
    clear HSP
    obtain ⟨m, hm, rfl, HSP⟩ := hrel
    have d2 := cell_block _ gx 2 _ _ _ HSP.out.box
    by_cases hltm : m < nf
    ·have hltmI : (m : Int) < (nf : Int) := by omega
     obtain ⟨cv, hcv⟩ : ∃ cv, cvs[m]? = some cv := ⟨_, List.getElem?_eq_getElem (by have := HSP.out.off.2.2; omega)⟩
     obtain ⟨g, nc, c, rfl, _, _, _, hncb⟩ := HSP.out.cod cv (List.mem_of_getElem? hcv)
     have hncI : (nc : Int) ≤ 100000000000000 := by omega
     have HCV := hid_of hcv
     clear hcv hncb
     go_wp2_with fail
     clear d2
     go_loopw [9] (fun i wr => ∃ k : Nat, k ≤ nc ∧ i = .int .i64 (k : Int) ∧ Hid (SpQ w wr gx #[.int .i64 mem, .slice (some ⟨gd, 0, none⟩) nd dl, .slice (some ⟨gf, 0, none⟩) nf fl] gd gf nd nf cvs m)) (fun i _ => nc - (intOf i).toNat)
     case atStart => exact ⟨0, by omega, rfl, HSP⟩
     case round =>
      clear HSP
      obtain ⟨k2, hk2, rfl, HSP⟩ := hrel
      have d2 := cell_block _ gx 2 _ _ _ HSP.out.box
      have x3 := HSP.out.hdr m _ (Nat.le_refl _) HCV.out
      by_cases hltk : k2 < nc
      ·have hltkI : (k2 : Int) < (nc : Int) := by omega
       obtain ⟨g9, n9, c9, e9, hth, _⟩ := HSP.out.cod _ (List.mem_of_getElem? HCV.out)
       cases e9
       obtain ⟨⟨u0, s0⟩, f0⟩ := there_at hth (i := k2 * 2) (by omega)
       obtain ⟨⟨u1, s1⟩, f1⟩ := there_at hth (i := k2 * 2 + 1) (by omega)
       have HS2 := hid_of ((HSP.out.code (List.mem_of_getElem? HCV.out) (k2 * 2) (.int .i64 (-5))).code (List.mem_of_getElem? HCV.out) (k2 * 2 + 1) (.int .i64 0))
       clear hth HSP
       go_wp2
       go_roundw
       case rel => exact ⟨k2 + 1, by omega, by go_num, HS2⟩
       case measure => simp [intOf]; omega
      ·have hltkI : ¬ ((k2 : Int) < (nc : Int)) := by omega
       have hfth := HSP.out.fth
       obtain ⟨⟨u0, s0⟩, f0⟩ := there_at hfth (i := m * 4) (by omega)
       obtain ⟨⟨u1, s1⟩, f1⟩ := there_at hfth (i := m * 4 + 1) (by omega)
       obtain ⟨⟨u2, s2⟩, f2⟩ := there_at hfth (i := m * 4 + 2) (by omega)
       obtain ⟨⟨u3, s3⟩, f3⟩ := there_at hfth (i := m * 4 + 3) (by omega)
       have HS2 := hid_of (HSP.out.fns m (Nat.le_refl _))
       clear hfth HSP
       go_wp2
       go_roundw
       case rel => exact ⟨m + 1, by omega, by go_num, HS2⟩
       case measure => simp [intOf]; omega
    ·have hltmI : ¬ ((m : Int) < (nf : Int)) := by omega
     have hmn : m = nf := by omega
     have HSD : Hid (SpQ w wr gx #[.int .i64 mem, .slice (some ⟨gd, 0, none⟩) nd dl, .slice (some ⟨gf, 0, none⟩) nf fl] gd gf nd nf cvs nf) := by unfold Hid; have h9 := HSP.out; rw [hmn] at h9; exact h9
     clear HSP hmn
     go_wp2_with fail
     clear d2
     go_loopw [10] (fun i wr => ∃ k : Nat, k ≤ nd ∧ i = .int .i64 (k : Int) ∧ Hid (SpQ w wr gx #[.int .i64 mem, .slice (some ⟨gd, 0, none⟩) nd dl, .slice (some ⟨gf, 0, none⟩) nf fl] gd gf nd nf cvs nf)) (fun i _ => nd - (intOf i).toNat)
     case atStart => exact ⟨0, by omega, rfl, HSD⟩
     case round =>
      clear HSD
      obtain ⟨k3, hk3, rfl, HSD⟩ := hrel
      have d1 := cell_block _ gx 1 _ _ _ HSD.out.box
      by_cases hltk : k3 < nd
      ·have hltkI : (k3 : Int) < (nd : Int) := by omega
       obtain ⟨⟨u0, s0⟩, f0⟩ := there_at HSD.out.dth hltk
       have HS2 := hid_of (HSD.out.dat (by have := HSD.out.off.2.2; omega) k3 (.int .u8 94))
       clear HSD
       go_wp2
       go_roundw
       case rel => exact ⟨k3 + 1, by omega, by go_num, HS2⟩
       case measure => simp [intOf]; omega
      ·have hltkI : ¬ ((k3 : Int) < (nd : Int)) := by omega
       have HKE := hid_of HSD.out.kept
       clear HSD
       go_wp2
       go_ret
       exact ⟨rfl, HKE.out⟩
end Go.Proofs.YtcaadgcfceommaaGreat

import Derived.Test.YtcaadgcfceommaaGreatTNa
namespace Go.Proofs.YtcaadgcfceommaaGreat
open Go.ChangeShapes Go.WideShapes Go.ChangeAt Go.RowKit Go.Deep
set_option linter.unusedVariables false
set_option linter.unusedSimpArgs false
set_option maxRecDepth 100000
theorem Tryz.info5q : (Tryz.prog.info? 5).map (fun i => (i.zero, i.size, i.bytes)) = some (some (.int .u8 0), 1, 1) := by kernel_rfl
set_option maxHeartbeats 16000000 in
theorem lend_q (v : Value) (p : PG) (w : World) (B : Nat) (h : PgIs w B v p) (hB : B ≤ w.heap.size) (ho : p.Ok) : Calls Tryz.prog 11 #[v] w (LendQ p w) := by
 have hpg := h
 obtain ⟨dv, fv, rfl, hd, hdl, hf⟩ := h
 obtain ⟨dao, dc, rfl⟩ := hd.shape
 obtain ⟨fao, fc, rfl⟩ := hf.shape
 have hbd := ho.data.2
 have hlf := ho.len
 have HF := hid_of hf
 have HO := hid_of ho
 obtain ⟨nd, hnd⟩ := nmd (p.data.length)
 obtain ⟨nf, hnf⟩ := nmd (p.fns.length)
 obtain ⟨mem, hmem⟩ := nmd (p.mem)
 have HNF := hid_of hnf
 have HND := hid_of hnd
 have HMEM := hid_of hmem
 have HBB := hid_of hB
 rw [← hmem, ← hnd, ← hnf] at hpg ⊢
 rw [← hnd] at hbd
 rw [← hnf] at hlf
 have hndI : (nd : Int) ≤ 140737488351232 := by omega
 have hnfI : (nf : Int) ≤ 140737488351232 := by omega
 obtain ⟨gb, hgb⟩ := nmd (w.heap.size)
 obtain ⟨W, hW⟩ := nmd ((w.alloc (.cells #[.int .i64 mem, .slice dao nd dc, .slice fao nf fc] 25)).alloc (.cells #[.int .i64 0, .slice none 0 0, .slice none 0 0] 25))
 obtain ⟨k1, x1, x2⟩ := allocs2 _ _ _ _ _ _ hW
 rw [← hgb] at x1 x2
 have HKW := hid_of k1
 have HB1 := hid_of x1
 have HB2 := hid_of x2
 have HGB := hid_of hgb
 have HTW := hid_of (rtwin_p _ p W B (hpg.kept k1 (fun _ _ f => f)) (Nat.le_trans hB k1.size) ho)
 have c0 := cell_block _ _ 0 _ _ _ x1
 have c1 := cell_block _ _ 1 _ _ _ x1
 have c2 := cell_block _ _ 2 _ _ _ x1
 have HSW : Hid (gb + 1 < W.heap.size) := (Array.getElem?_eq_some_iff.1 x2).1
 clear x1 x2 k1 hd hdl hf hnf hnd hmem hpg ho hB
 go_enter Tryz.func11, Tryz.ntmps11
 go_upto_region 1 with fail
 rw [← hW, ← hgb]
 clear hW hgb
 go_wp2_with fail
 refine HTW.out.mono ?_
 rintro e w2 ⟨⟨dv, fv, cvs, rfl, hown⟩, hk2⟩
 rw [← HMEM.out]
 obtain ⟨ta, tc, e1⟩ := ownsRow_shape hown.dat
 obtain ⟨ua, uc, e2⟩ := ownsRow_shape hown.fns.row
 rw [← HND.out] at e1
 rw [← HNF.out] at e2
 subst e1
 subst e2
 have HOW := hid_of (hown.mono HKW.out.size)
 have hkA := hk2.alloc (.cells #[.int .i64 mem, .slice ta nd tc, .slice ua nf uc] 25)
 have HBX := hid_of (heap_alloc_new w2 (.cells #[.int .i64 mem, .slice ta nd tc, .slice ua nf uc] 25))
 have HG3 : Hid (gb + 1 < w2.heap.size) := by have := HSW.out; have := hk2.size; unfold Hid; omega
 have HK3 := hid_of hkA
 have HOW3 := hid_of (HOW.out.kept ((Kept.refl (fun _ => False) w2).alloc (.cells #[.int .i64 mem, .slice ta nd tc, .slice ua nf uc] 25)) (fun _ _ f => f))
 clear hown hk2 hkA HTW HOW c0 c1 c2
 go_upto_region 2 with fail
 generalize w2.alloc (.cells #[.int .i64 mem, .slice ta nd tc, .slice ua nf uc] 25) = w3 at *
 generalize w2.heap.size = g3 at *
 obtain ⟨i5, hi, hz0, hz1, hz2⟩ := info_parts Tryz.info5q
 have hKd : KF w3 w3.drew := (Kept.refl _ _).drew
 have hOd := HOW3.out.kept hKd (fun _ _ f => f)
 have hbW : w.heap.size ≤ w3.drew.heap.size := Nat.le_trans HKW.out.size (Nat.le_trans HK3.out.size hKd.size)
 obtain ⟨gd, dc', w4, hr, hO, hka, _⟩ := app_mark 22 5 Tryz.underlying22 hi hz0 hz1 hz2 rfl (by decide) w3.drew w.heap.size (.slice ta nd tc) nd (p.data.map (Value.int .u8)) (by have h9 := hOd.dat; rw [← HND.out] at h9; exact h9) [.int .u8 169] rfl (by simp; rfl) hbW (by unfold maxLen; omega) (by omega)
 have HR := hid_of hr
 have hdr := HOW3.out.dat
 rw [← HND.out] at hdr
 have HSX : Hid (∀ w', Kept (fun q => (Value.slice ta nd tc).ownBlock = some q ∨ q = g3) w3 w' → w'.cell? ⟨gb, 1, none⟩ = some (.slice dao nd dc)) := fun w' hw => hw.cell (cell_block _ _ 1 _ _ _ (box_kept HK3.out HB1.out id)) (fun e => e.elim (fun e => own_box hdr (box_kept HK3.out HB1.out id) (by decide) e) (fun (e : gb = g3) => by have h1 := HG3.out; omega))
 have blk4 := box_kept hka (box_kept hKd HBX.out id) (own_box hdr HBX.out (by decide))
 have y1 : w3.drew.cell? ⟨g3, 1, none⟩ = some (.slice ta nd tc) := cell_block _ _ 1 _ _ _ HBX.out
 have y1b : (w3.drew.alloc (.cells #[.int .u8 169] 5)).cell? ⟨g3, 1, none⟩ = some (.slice ta nd tc) := ((Kept.refl (fun _ => False) w3.drew).alloc _).cell y1 id
 have t1 := cell_block _ _ 1 _ _ _ blk4
 have tf := frozen_block _ g3 1 _ _ blk4
 have hs1 : Kept (fun q => (Value.slice ta nd tc).ownBlock = some q ∨ q = g3) w3 w3.drew := (Kept.refl _ _).drew
 have HS2 := hid_of (hs1.alloc (.cells #[.int .u8 169] 5))
 have HS3 : Hid (Kept (fun q => (Value.slice ta nd tc).ownBlock = some q ∨ q = g3) w3 w4) := hs1.trans (hka.mono (fun _ _ e => .inl e))
 have HS4 : Hid (Kept (fun q => (Value.slice ta nd tc).ownBlock = some q ∨ q = g3) w3 (w4.setCell ⟨g3, 1, none⟩ (.slice (some ⟨gd, 0, none⟩) nd dc'))) := HS3.out.trans ((kept_set w4 g3 1 _).mono (fun _ _ e => .inr e))
 have hcap := (own_cap hO).2
 have hcI : (nd : Int) ≤ (dc' : Int) := by omega
 have HCAP := hid_of hcap
 have HB4 := hid_of (set_block _ g3 1 _ _ _ blk4 (.slice (some ⟨gd, 0, none⟩) nd dc'))
 have HO4 := hid_of ((kept_set w4 g3 1 (.slice (some ⟨gd, 0, none⟩) nd dc')).ownsRow hO (fun q hq e => by subst e; exact own_box hO blk4 (by decide) hq))
 have HFN4 : Hid (OwnF w.heap.size (w4.setCell ⟨g3, 1, none⟩ (.slice (some ⟨gd, 0, none⟩) nd dc')) (.slice ua nf uc) p.fns cvs) := (hOd.fns.kept' hka (fun q hq e => own_unlike hOd.fns.row hdr (by decide) q hq e) (fun c hc q hq e => by obtain ⟨i, F, _, _, h1⟩ := hOd.fns.mem hc; exact own_unlike h1 hdr (by decide) q hq e)).box blk4 (by decide) (by decide) (kept_set w4 g3 1 _)
 have HK4 : Hid (KF w (w4.setCell ⟨g3, 1, none⟩ (.slice (some ⟨gd, 0, none⟩) nd dc'))) := (HKW.out.trans HK3.out).step HS4.out (fun i hi e => e.elim (fun e => by have := (hdr.lt i e).1; omega) (fun e => by have h1 := HG3.out; have h2 := HGB.out; omega))
 have HB14 : Hid ((w4.setCell ⟨g3, 1, none⟩ (.slice (some ⟨gd, 0, none⟩) nd dc')).heap[gb]? = some (.cells #[.int .i64 mem, .slice dao nd dc, .slice fao nf fc] 25 (0, 0))) := box_kept HS4.out (box_kept HK3.out HB1.out id) (fun e => e.elim (fun e => own_box hdr (box_kept HK3.out HB1.out id) (by decide) e) (fun (e : gb = g3) => by have h1 := HG3.out; omega))
 have HB24 : Hid ((w4.setCell ⟨g3, 1, none⟩ (.slice (some ⟨gd, 0, none⟩) nd dc')).heap[gb + 1]? = some (.cells #[.int .i64 0, .slice none 0 0, .slice none 0 0] 25 (0, 0))) := box_kept HS4.out (box_kept HK3.out HB2.out id) (fun e => e.elim (fun e => own_box hdr (box_kept HK3.out HB2.out id) (by decide) e) (fun (e : gb + 1 = g3) => by have h1 := HG3.out; omega))
 clear hcap hKd hOd hbW hr hO hka hdr blk4 hs1 HBX HOW3 hi hz0 hz1 hz2
 refine wp_region_held_drew (S := fun w' => Kept (fun q => (Value.slice ta nd tc).ownBlock = some q ∨ q = g3) w3 w') (by kernel_rfl) ((Kept.refl _ _).drew) (fun hHeld => ?_)
 generalize w3.drew = wd at *
 iterate 1
  refine tkn (v := ?_) 0 rfl ?_ ?_; rotate_left 1
  ·intro w hSw; have s0 := HSX.out w hSw; go_simp; try with_reducible rfl
  try simp only [Act.put, tdy]
 iterate 3
  refine tkn (v := ?_) 4 rfl ?_ ?_; rotate_left 1
  ·intro w hSw; have s0 := HSX.out w hSw; go_simp; try with_reducible rfl
  try simp only [Act.put, tdy]
 refine (fun (hfin : ?Ga) => ?maina) ?fina
 case maina =>
  refine wpAnyH_ready (rs := [1, 2]) (by kernel_rfl) (by simp) ?_
  refine AllReadyH.cons rfl (fun K hK => ?_) (AllReadyH.cons rfl (fun K hK => ?_) AllReadyH.nil)
  ·go_simp
   refine hK.out _ _ hHeld (fun hHeld => ?_)
   clear hK K
   try simp only [Act.put, tdy]
   refine rdy 2 rfl (fun K hK => ?_)
   go_simp
   refine hK.out _ _ HS2.out (fun hHeld => ?_)
   clear hK K
   try simp only [Act.put, tdy]
   refine rdy 3 rfl (fun K hK => ?_)
   refine stp_app rfl (.tmp 8) (.tmp 9) 22 22 rfl _ _ rfl rfl _ _ HR.out ?_
   refine hK.out _ _ HS3.out (fun hHeld => ?_)
   clear hK K
   try simp only [Act.put, tdy]
   iterate 2
    refine tkn (v := ?_) 7 rfl ?_ ?_; rotate_left 1
    ·intro w hSw; have s0 := HSX.out w hSw; go_simp; try with_reducible rfl
    try simp only [Act.put, tdy]
   refine rdy 9 rfl (fun K hK => ?_)
   go_simp
   refine hK.out _ _ HS4.out (fun hHeld => ?_)
   clear hK K
   try simp only [Act.put, tdy]
   refine wpAnyH_done (by kernel_rfl) ?_ _
   exact hfin
  ·go_simp
   refine hK.out _ _ HS2.out (fun hHeld => ?_)
   clear hK K
   try simp only [Act.put, tdy]
   refine rdy 1 rfl (fun K hK => ?_)
   go_simp
   refine hK.out _ _ hHeld (fun hHeld => ?_)
   clear hK K
   try simp only [Act.put, tdy]
   refine rdy 3 rfl (fun K hK => ?_)
   refine stp_app rfl (.tmp 8) (.tmp 9) 22 22 rfl _ _ rfl rfl _ _ HR.out ?_
   refine hK.out _ _ HS3.out (fun hHeld => ?_)
   clear hK K
   try simp only [Act.put, tdy]
   iterate 2
    refine tkn (v := ?_) 7 rfl ?_ ?_; rotate_left 1
    ·intro w hSw; have s0 := HSX.out w hSw; go_simp; try with_reducible rfl
    try simp only [Act.put, tdy]
   refine rdy 9 rfl (fun K hK => ?_)
   go_simp
   refine hK.out _ _ HS4.out (fun hHeld => ?_)
   clear hK K
   try simp only [Act.put, tdy]
   refine wpAnyH_done (by kernel_rfl) ?_ _
   exact hfin
 case fina =>
  clear HR HS2 HS3 HS4 HSX y1 y1b t1 tf hcI hHeld
  generalize w4.setCell ⟨g3, 1, none⟩ (.slice (some ⟨gd, 0, none⟩) nd dc') = w5 at *
  go_upto_region 3 with fail
  obtain ⟨i56, hi, hz0, hz1, hz2⟩ := info_parts Tryz.info56
  have hKd : KF w5 w5.drew := (Kept.refl _ _).drew
  have hOd := HFN4.out.kept hKd (fun _ _ f => f)
  have hbW : w.heap.size ≤ w5.drew.heap.size := Nat.le_trans HK4.out.size hKd.size
  obtain ⟨gf, fc', w6, hr, hO, hka, _⟩ := app_mark 23 56 Tryz.underlying23 hi hz0 hz1 hz2 rfl (by decide) w5.drew w.heap.size (.slice ua nf uc) nf (fcells p.fns cvs) (by have h9 := hOd.row; rw [← HNF.out] at h9; exact h9) [.int .i64 (-7), .int .i64 0, .int .i64 0, .slice none 0 0] rfl (by simp; exact ⟨rfl, rfl, rfl⟩) hbW (by unfold maxLen; omega) (by omega)
  have HR := hid_of hr
  have hdr := HFN4.out.row
  rw [← HNF.out] at hdr
  have HSX : Hid (∀ w', Kept (fun q => (Value.slice ua nf uc).ownBlock = some q ∨ q = g3) w5 w' → w'.cell? ⟨gb, 2, none⟩ = some (.slice fao nf fc)) := fun w' hw => hw.cell (cell_block _ _ 2 _ _ _ HB14.out) (fun e => e.elim (fun e => own_box hdr HB14.out (by decide) e) (fun (e : gb = g3) => by have h1 := HG3.out; omega))
  have blk6 := box_kept hka (box_kept hKd HB4.out id) (own_box hdr HB4.out (by decide))
  have y1 : w5.drew.cell? ⟨g3, 2, none⟩ = some (.slice ua nf uc) := cell_block _ _ 2 _ _ _ HB4.out
  have y1b : (w5.drew.alloc (.cells #[.int .i64 (-7), .int .i64 0, .int .i64 0, .slice none 0 0] 56)).cell? ⟨g3, 2, none⟩ = some (.slice ua nf uc) := ((Kept.refl (fun _ => False) w5.drew).alloc _).cell y1 id
  have t1 := cell_block _ _ 2 _ _ _ blk6
  have tf := frozen_block _ g3 2 _ _ blk6
  have hs1 : Kept (fun q => (Value.slice ua nf uc).ownBlock = some q ∨ q = g3) w5 w5.drew := (Kept.refl _ _).drew
  have HS2 := hid_of (hs1.alloc (.cells #[.int .i64 (-7), .int .i64 0, .int .i64 0, .slice none 0 0] 56))
  have HS3 : Hid (Kept (fun q => (Value.slice ua nf uc).ownBlock = some q ∨ q = g3) w5 w6) := hs1.trans (hka.mono (fun _ _ e => .inl e))
  have HS4 : Hid (Kept (fun q => (Value.slice ua nf uc).ownBlock = some q ∨ q = g3) w5 (w6.setCell ⟨g3, 2, none⟩ (.slice (some ⟨gf, 0, none⟩) nf fc'))) := HS3.out.trans ((kept_set w6 g3 2 _).mono (fun _ _ e => .inr e))
  have hcap := (own_cap hO).2
  have hcI : (nf : Int) ≤ (fc' : Int) := by omega
  have hks := kept_set w6 g3 2 (.slice (some ⟨gf, 0, none⟩) nf fc')
  have hO6 := hks.ownsRow hO (fun q hq e => by subst e; exact own_box hO blk6 (by decide) hq)
  have HLQ : Hid (LnQ w (w6.setCell ⟨g3, 2, none⟩ (.slice (some ⟨gf, 0, none⟩) nf fc')) gb g3 mem (.slice dao nd dc) (.slice fao nf fc) gd dc' gf fc' p cvs 0) := by
   have hG := HG3.out
   have hGB := HGB.out
   refine ⟨box_kept HS4.out HB14.out (fun e => e.elim (fun e => own_box hdr HB14.out (by decide) e) (fun e => by omega)), box_kept HS4.out HB24.out (fun e => e.elim (fun e => own_box hdr HB24.out (by decide) e) (fun e => by omega)), by rw [← HND.out, ← HNF.out]; exact set_block _ g3 2 _ _ _ blk6 (.slice (some ⟨gf, 0, none⟩) nf fc'), ?_, ?_, HK4.out.step HS4.out (fun i hi e => e.elim (fun e => by have := (hdr.lt i e).1; omega) (fun e => by omega)), ⟨hGB.symm, hG⟩⟩
   ·have hf0 := (hOd.rows (gf := gf) (fc := fc') hka (by rw [← HNF.out]; exact hO))
    refine hf0.kept hks (fun e => ?_) (fun c hc q hq e => ?_)
    ·exact own_box hO blk6 (by decide) (by rw [e]; rfl)
    ·obtain ⟨i, hi, e9⟩ := List.mem_iff_getElem.1 hc
     obtain ⟨v9, n9, xs9, h9, e8⟩ := hf0.code (i := i) (by rw [List.getElem?_eq_getElem hi, e9])
     exact own_box h9 blk6 (by decide) (by rw [e8, hq, e])
   ·rw [← HND.out]
    have hd5 := HO4.out
    exact HS4.out.ownsRow hd5 (fun q hq e => e.elim (fun e => own_unlike hd5 hdr (by decide) q hq e) (fun e => by subst e; exact own_box hd5 HB4.out (by decide) hq))
  clear hcap hKd hOd hbW hr hO hka hdr blk6 hs1 hks hO6 HB4 HB14 HB24 HFN4 HO4 HK4 hi hz0 hz1 hz2
  refine wp_region_held_drew (S := fun w' => Kept (fun q => (Value.slice ua nf uc).ownBlock = some q ∨ q = g3) w5 w') (by kernel_rfl) ((Kept.refl _ _).drew) (fun hHeld => ?_)
  generalize w5.drew = wd at *
  iterate 1
   refine tkn (v := ?_) 0 rfl ?_ ?_; rotate_left 1
   ·intro w hSw; have s0 := HSX.out w hSw; go_simp; try with_reducible rfl
   try simp only [Act.put, tdy]
  iterate 1
   refine tkn (v := ?_) 2 rfl ?_ ?_; rotate_left 1
   ·intro w hSw; have s0 := HSX.out w hSw; go_simp; try with_reducible rfl
   try simp only [Act.put, tdy]
  iterate 3
   refine tkn (v := ?_) 5 rfl ?_ ?_; rotate_left 1
   ·intro w hSw; have s0 := HSX.out w hSw; go_simp; try with_reducible rfl
   try simp only [Act.put, tdy]
  refine (fun (hfin : ?Gb) => ?mainb) ?finb
  case mainb =>
   refine wpAnyH_ready (rs := [1, 3]) (by kernel_rfl) (by simp) ?_
   refine AllReadyH.cons rfl (fun K hK => ?_) (AllReadyH.cons rfl (fun K hK => ?_) AllReadyH.nil)
   ·go_simp
    refine hK.out _ _ hHeld (fun hHeld => ?_)
    clear hK K
    try simp only [Act.put, tdy]
    refine rdy 3 rfl (fun K hK => ?_)
    go_simp
    refine hK.out _ _ HS2.out (fun hHeld => ?_)
    clear hK K
    try simp only [Act.put, tdy]
    refine rdy 4 rfl (fun K hK => ?_)
    refine stp_app rfl (.tmp 17) (.tmp 19) 23 23 rfl _ _ rfl rfl _ _ HR.out ?_
    refine hK.out _ _ HS3.out (fun hHeld => ?_)
    clear hK K
    try simp only [Act.put, tdy]
    iterate 2
     refine tkn (v := ?_) 8 rfl ?_ ?_; rotate_left 1
     ·intro w hSw; have s0 := HSX.out w hSw; go_simp; try with_reducible rfl
     try simp only [Act.put, tdy]
    refine rdy 10 rfl (fun K hK => ?_)
    go_simp
    refine hK.out _ _ HS4.out (fun hHeld => ?_)
    clear hK K
    try simp only [Act.put, tdy]
    refine wpAnyH_done (by kernel_rfl) ?_ _
    exact hfin
   ·go_simp
    refine hK.out _ _ HS2.out (fun hHeld => ?_)
    clear hK K
    try simp only [Act.put, tdy]
    refine rdy 1 rfl (fun K hK => ?_)
    go_simp
    refine hK.out _ _ hHeld (fun hHeld => ?_)
    clear hK K
    try simp only [Act.put, tdy]
    refine rdy 4 rfl (fun K hK => ?_)
    refine stp_app rfl (.tmp 17) (.tmp 19) 23 23 rfl _ _ rfl rfl _ _ HR.out ?_
    refine hK.out _ _ HS3.out (fun hHeld => ?_)
    clear hK K
    try simp only [Act.put, tdy]
    iterate 2
     refine tkn (v := ?_) 8 rfl ?_ ?_; rotate_left 1
     ·intro w hSw; have s0 := HSX.out w hSw; go_simp; try with_reducible rfl
     try simp only [Act.put, tdy]
    refine rdy 10 rfl (fun K hK => ?_)
    go_simp
    refine hK.out _ _ HS4.out (fun hHeld => ?_)
    clear hK K
    try simp only [Act.put, tdy]
    refine wpAnyH_done (by kernel_rfl) ?_ _
    exact hfin
  case finb =>
  clear HR HS2 HS3 HS4 HSX y1 y1b t1 tf hcI hHeld
  generalize w6.setCell ⟨g3, 2, none⟩ (.slice (some ⟨gf, 0, none⟩) nf fc') = w7 at *
  go_wp2_with fail
  go_loopw [4] (fun i wr => ∃ (k : Nat) (cvs : List Value), k ≤ nf ∧ i = .int .i64 (k : Int) ∧ Hid (LnQ w wr gb g3 mem (.slice dao nd dc) (.slice fao nf fc) gd dc' gf fc' p cvs k)) (fun i _ => nf - (intOf i).toNat)
  case atStart => exact ⟨0, cvs, by omega, rfl, HLQ⟩
  case round =>
   clear HLQ
   obtain ⟨k, cvs, hk, rfl, HLQ⟩ := hrel
   have z2 := cell_block _ g3 2 _ _ _ HLQ.out.blk
   rw [← HNF.out] at z2
   by_cases hlt : k < nf
   ·have hltI : (k : Int) < (nf : Int) := by omega
    have hlk : k < p.fns.length := by rw [← HNF.out]; exact hlt
    obtain ⟨pg, po, f, rfl, hgB, hfi, cvp, hrg, hri, hrb⟩ := HF.out.at hlk
    obtain ⟨cao, cc, hcs⟩ := hri.shape
    obtain ⟨nc, hnc⟩ := nmd (f.code.length)
    rw [← hnc] at hcs
    subst hcs
    obtain ⟨cv, hci⟩ : ∃ cv, cvs[k]? = some cv := ⟨_, List.getElem?_eq_getElem (by rw [HLQ.out.rows.len]; exact hlk)⟩
    have hlc := (HO.out.fns f (List.mem_of_getElem? hfi)).len
    have hncI : (nc : Int) ≤ 140737488351232 := by omega
    have HFI := hid_of hfi
    have HCI := hid_of hci
    have HNC := hid_of hnc
    have HLC := hid_of hlc
    have HPG := hid_of hgB
    have HX3 : Hid (w.cell? ⟨pg, po + k * 4 + 3, none⟩ = some (.slice cao nc cc)) := hrg 3 _ rfl
    clear hfi hci hnc hlc hgB hrg hri hrb hlk
    go_upto_region 7 with fail
    clear z2
    obtain ⟨g, c, w7, hr, hcap, hka, hcell, hfrz, hnext⟩ := HLQ.out.next HFI.out HCI.out (W := wr.drew) ((Kept.refl _ _).drew) (by have := HLC.out; omega)
    rw [← HNC.out] at hr hcap hnext
    have HR := hid_of hr
    have HNX := hid_of hnext
    have hro := HLQ.out.rows.todo k f cv (Nat.le_refl _) HFI.out HCI.out
    have hgf9 := (HLQ.out.rows.row.lt gf rfl).1
    have HSX : Hid (∀ w', Kept (fun q => cv.ownBlock = some q ∨ q = gf) wr w' → w'.cell? ⟨gb, 2, none⟩ = some (.slice (some ⟨pg, po, none⟩) nf fc) ∧ w'.cell? ⟨g3, 2, none⟩ = some (.slice (some ⟨gf, 0, none⟩) nf fc') ∧ w'.cell? ⟨pg, po + k * 4 + 3, none⟩ = some (.slice cao nc cc)) := fun w' hw => by
     have hl3 := HLQ.out.blk
     rw [← HNF.out] at hl3
     refine ⟨hw.cell (cell_block _ _ 2 _ _ _ HLQ.out.box) (fun e => e.elim (fun e => own_box hro HLQ.out.box (by decide) e) (fun e => own_box HLQ.out.rows.row HLQ.out.box (by decide) (congrArg some e.symm))), hw.cell (cell_block _ _ 2 _ _ _ hl3) (fun e => e.elim (fun e => own_box hro HLQ.out.blk (by decide) e) (fun e => own_box HLQ.out.rows.row HLQ.out.blk (by decide) (congrArg some e.symm))), hw.cell (HLQ.out.kept.cell HX3.out id) (fun e => e.elim (fun e => ?_) (fun e => ?_))⟩
     ·have h8 : w.heap.size ≤ pg := (hro.lt _ e).1
      have h9 := HPG.out
      have h7 := HBB.out
      omega
     ·have h9 := HPG.out
      have h7 := HBB.out
      have e' : pg = gf := e
      omega
    have y1 : wr.drew.cell? ⟨gf, k * 4 + 3, none⟩ = some cv := by
     show wr.cell? _ = _
     rw [HLQ.out.rows.row.cellAt _ (by have := HNF.out; omega), List.getElem?_append_left (by rw [fcells_len _ _ HLQ.out.rows.len]; have := HNF.out; omega), fcells_at _ _ _ _ _ HFI.out HCI.out 3 (by omega)]
     rfl
    have y1b : (wr.drew.alloc (.cells #[.int .i64 (-7), .int .i64 0] 64)).cell? ⟨gf, k * 4 + 3, none⟩ = some cv := ((Kept.refl (fun _ => False) wr.drew).alloc _).cell y1 id
    have hs1 : Kept (fun q => cv.ownBlock = some q ∨ q = gf) wr wr.drew := (Kept.refl _ _).drew
    have HS2 := hid_of (hs1.alloc (.cells #[.int .i64 (-7), .int .i64 0] 64))
    have HS3 : Hid (Kept (fun q => cv.ownBlock = some q ∨ q = gf) wr w7) := hs1.trans (hka.mono (fun _ _ e => .inl e))
    have HS4 : Hid (Kept (fun q => cv.ownBlock = some q ∨ q = gf) wr (w7.setCell ⟨gf, k * 4 + 3, none⟩ (.slice (some ⟨g, 0, none⟩) nc c))) := HS3.out.trans ((kept_set w7 gf _ _).mono (fun _ _ e => .inr e))
    have hcI : (nc : Int) ≤ (c : Int) := by omega
    clear hr hcap hka hnext hs1 hro hgf9 HFI HCI HX3 HLQ HNC
    refine wp_region_held_drew (S := fun w' => Kept (fun q => cv.ownBlock = some q ∨ q = gf) wr w') (by kernel_rfl) ((Kept.refl _ _).drew) (fun hHeld => ?_)
    generalize wr.drew = wd at *
    iterate 8
     refine tkn (v := ?_) 0 rfl ?_ ?_; rotate_left 1
     ·intro w hSw; obtain ⟨s0, s1, s2⟩ := HSX.out w hSw; go_simp; try with_reducible rfl
     try simp only [Act.put, tdy]
    iterate 1
     refine tkn (v := ?_) 9 rfl ?_ ?_; rotate_left 1
     ·intro w hSw; obtain ⟨s0, s1, s2⟩ := HSX.out w hSw; go_simp; try with_reducible rfl
     try simp only [Act.put, tdy]
    iterate 7
     refine tkn (v := ?_) 12 rfl ?_ ?_; rotate_left 1
     ·intro w hSw; obtain ⟨s0, s1, s2⟩ := HSX.out w hSw; go_simp; try with_reducible rfl
     try simp only [Act.put, tdy]
    refine (fun (hfin : ?Gc) => ?mainc) ?finc
    case mainc =>
     refine wpAnyH_ready (rs := [8, 10]) (by kernel_rfl) (by simp) ?_
     refine AllReadyH.cons rfl (fun K hK => ?_) (AllReadyH.cons rfl (fun K hK => ?_) AllReadyH.nil)
     ·go_simp
      refine hK.out _ _ hHeld (fun hHeld => ?_)
      clear hK K
      try simp only [Act.put, tdy]
      refine rdy 10 rfl (fun K hK => ?_)
      go_simp
      refine hK.out _ _ HS2.out (fun hHeld => ?_)
      clear hK K
      try simp only [Act.put, tdy]
      refine rdy 11 rfl (fun K hK => ?_)
      refine stp_app rfl (.tmp 41) (.tmp 43) 54 54 rfl _ _ rfl rfl _ _ HR.out ?_
      refine hK.out _ _ HS3.out (fun hHeld => ?_)
      clear hK K
      try simp only [Act.put, tdy]
      iterate 3
       refine tkn (v := ?_) 19 rfl ?_ ?_; rotate_left 1
       ·intro w hSw; obtain ⟨s0, s1, s2⟩ := HSX.out w hSw; go_simp; try with_reducible rfl
       try simp only [Act.put, tdy]
      refine rdy 22 rfl (fun K hK => ?_)
      go_simp
      refine hK.out _ _ HS4.out (fun hHeld => ?_)
      clear hK K
      try simp only [Act.put, tdy]
      refine wpAnyH_done (by kernel_rfl) ?_ _
      exact hfin
     ·go_simp
      refine hK.out _ _ HS2.out (fun hHeld => ?_)
      clear hK K
      try simp only [Act.put, tdy]
      refine rdy 8 rfl (fun K hK => ?_)
      go_simp
      refine hK.out _ _ hHeld (fun hHeld => ?_)
      clear hK K
      try simp only [Act.put, tdy]
      refine rdy 11 rfl (fun K hK => ?_)
      refine stp_app rfl (.tmp 41) (.tmp 43) 54 54 rfl _ _ rfl rfl _ _ HR.out ?_
      refine hK.out _ _ HS3.out (fun hHeld => ?_)
      clear hK K
      try simp only [Act.put, tdy]
      iterate 3
       refine tkn (v := ?_) 19 rfl ?_ ?_; rotate_left 1
       ·intro w hSw; obtain ⟨s0, s1, s2⟩ := HSX.out w hSw; go_simp; try with_reducible rfl
       try simp only [Act.put, tdy]
      refine rdy 22 rfl (fun K hK => ?_)
      go_simp
      refine hK.out _ _ HS4.out (fun hHeld => ?_)
      clear hK K
      try simp only [Act.put, tdy]
      refine wpAnyH_done (by kernel_rfl) ?_ _
      exact hfin
    case finc =>
     clear HR HS2 HS3 HS4 HSX y1 y1b hcell hfrz hcI hHeld
     generalize w7.setCell ⟨gf, k * 4 + 3, none⟩ (.slice (some ⟨g, 0, none⟩) nc c) = w8 at *
     go_wp2
     go_roundw
     case rel => exact ⟨k + 1, _, by omega, by go_num, HNX⟩
     case measure => simp [intOf]; omega
   ·have hkn : k = nf := by omega
    have hltI : ¬ ((k : Int) < (nf : Int)) := by omega
    have HLM : Hid (LnQ w wr gb g3 mem (.slice dao nd dc) (.slice fao nf fc) gd dc' gf fc' p cvs p.fns.length) := by unfold Hid; have h9 := HLQ.out; rw [hkn, HNF.out] at h9; rw [HNF.out]; exact h9
    have hb3 := HLM.out.blk
    rw [← HNF.out, ← HND.out] at hb3
    have y0 := cell_block _ g3 0 _ _ _ hb3
    have y1 := cell_block _ g3 1 _ _ _ hb3
    have y2 := cell_block _ g3 2 _ _ _ hb3
    have hz5 := HLM.out.res
    have hkr := kept_row wr (gb + 1) #[.int .i64 mem, .slice (some ⟨gd, 0, none⟩) nd dc', .slice (some ⟨gf, 0, none⟩) nf fc']
    have HXR := hid_of (setRow_heap wr (gb + 1) _ #[.int .i64 mem, .slice (some ⟨gd, 0, none⟩) nd dc', .slice (some ⟨gf, 0, none⟩) nf fc'] 25 (0, 0) hz5)
    have HFIN : Hid (LendQ p w (.returned (.agg #[.int .i64 mem, .slice (some ⟨gd, 0, none⟩) nd dc', .slice (some ⟨gf, 0, none⟩) nf fc'])) (wr.setRow (gb + 1) #[.int .i64 mem, .slice (some ⟨gd, 0, none⟩) nd dc', .slice (some ⟨gf, 0, none⟩) nf fc'])) := by
     have hoff := HLM.out.off
     refine ⟨HLM.out.kept.step hkr (fun i hi e => by omega), gd, dc', gf, fc', cvs, by rw [HMEM.out, HND.out, HNF.out]; rfl, ⟨HLM.out.rows.kept hkr (fun e => own_box HLM.out.rows.row HLM.out.res (by decide) (congrArg some e)) (fun c hc q hq e => ?_), hkr.ownsRow HLM.out.dat (fun q hq e => by subst e; exact own_box HLM.out.dat HLM.out.res (by decide) hq)⟩⟩
     obtain ⟨i, hi, e9⟩ := List.mem_iff_getElem.1 hc
     obtain ⟨v9, n9, xs9, h9, e8⟩ := HLM.out.rows.code (i := i) (by rw [List.getElem?_eq_getElem hi, e9])
     exact own_box h9 HLM.out.res (by decide) (by rw [e8, hq, e])
    clear hkr HLQ HLM hkn hb3
    go_wp2_with (refine wpList_store_row rfl 25 _ _ rfl (gb + 1) #[.int .i64 mem, .slice (some ⟨gd, 0, none⟩) nd dc', .slice (some ⟨gf, 0, none⟩) nf fc'] rfl rfl 25 _ hz5 size25p rfl (three_one _ _ _ rfl rfl rfl) ?_)
    refine bodyPost_ret (v := .agg #[.int .i64 mem, .slice (some ⟨gd, 0, none⟩) nd dc', .slice (some ⟨gf, 0, none⟩) nf fc']) ?_ rfl HFIN.out
    exact results_cell_row (by rfl) _ _ (gb + 1) 25 _ (0, 0) _ (by rfl) HXR.out Tryz.underlying25 rfl size25p
end Go.Proofs.YtcaadgcfceommaaGreat

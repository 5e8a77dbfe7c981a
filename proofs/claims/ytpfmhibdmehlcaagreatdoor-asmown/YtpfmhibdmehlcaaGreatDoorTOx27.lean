import Derived.Test.YtpfmhibdmehlcaaGreatDoorTOx26
namespace Go.Proofs.YtpfmhibdmehlcaaGreatDoor
open Go.RowKit
set_option linter.unusedVariables false
set_option linter.unusedSimpArgs false
set_option maxRecDepth 100000
variable {w0 w : World} {r gm : Nat} {R : Rdr} {NL : List (ByteArray × Int)} {dv fv lv wv : Value} {CV : List Value} {GM : List Nat}
def AddR (w0 w : World) (r : Nat) (R' : Rdr) (e : Ending) (w' : World) : Prop := (∃ v, e = .returned v) ∧ RdG w0 w' r R' ∧ OthG w w'
set_option maxHeartbeats 16000000 in
theorem addG (ln op ar : Int) (s : ByteArray) (gs : List Fnc) (f : Fnc) (hfs : R.fs = gs ++ [f]) (h : RdG w0 w r R) (hl : gs.length ≤ 80000) (hcl : f.code.length ≤ 90000) (hwl : R.ws.length ≤ 90000) :
  Calls Tryz.prog 78 #[.pointer (some ⟨r, 0, none⟩), .int .i64 ln, .agg #[.int .i64 op, .int .i64 ar], .string s] w (AddR w0 w r ⟨R.mem, R.sized, R.data, gs ++ [addC f op ar], R.ws ++ addW gs.length f ln op s⟩) := by
 have hka : Kept (fun _ => False) w (w.alloc (.cells #[.int .i64 op, .int .i64 ar] 48)) := (Kept.refl _ _).alloc _
 obtain ⟨dv, fv, lv, wv, gm, CV, GM, hX⟩ := h
 have HX := hid_of (hX.same hka)
 have HX0 := hid_of hX
 have HB := hid_of (heap_alloc_new w (.cells #[.int .i64 op, .int .i64 ar] 48))
 have HO1 := hid_of (Kept.othG hka)
 have HFS := hid_of hfs
 have HBD : Hid (gs.length ≤ 80000 ∧ f.code.length ≤ 90000 ∧ R.ws.length ≤ 90000) := ⟨hl, hcl, hwl⟩
 clear hka hX hfs hl hcl hwl
 obtain ⟨R', hR'⟩ := nmd ((⟨R.mem, R.sized, R.data, gs ++ [addC f op ar], R.ws ++ addW gs.length f ln op s⟩ : Rdr))
 rw [← hR']
 have HR' := hid_of hR'
 clear hR'
 go_enter Tryz.func78, Tryz.ntmps78
 go_upto_region 1 with fail
 have HGX : Hid (∀ B e s v n xs, w0.heap.size = B → w.ownsRow B e s v n xs → v.ownBlock ≠ some w.heap.size) := fun B e s v n xs _ ho hq => by have := (ho.lt _ hq).2; omega
 have HGR : Hid (¬ w.heap.size = r) := fun e => by have := (Array.getElem?_eq_some_iff.1 HX0.out.box).1; omega
 have HGF : Hid (fv.ownBlock ≠ some w.heap.size) := HGX.out _ _ _ _ _ _ rfl HX0.out.fns
 have HGW : Hid (wv.ownBlock ≠ some w.heap.size) := HGX.out _ _ _ _ _ _ rfl HX0.out.wts
 have HGC : Hid (∀ cv ∈ CV, cv.ownBlock ≠ some w.heap.size) := fun cv hc => by
  obtain ⟨i, hi, e⟩ := List.getElem_of_mem hc
  have h1 : CV[i]? = some cv := by rw [List.getElem?_eq_getElem hi, e]
  obtain ⟨x, _, hx⟩ := HX0.out.code.at h1
  exact HGX.out _ _ _ _ _ _ rfl hx
 have hkd : Kept (fun _ => False) (w.alloc (.cells #[.int .i64 op, .int .i64 ar] 48)) (w.alloc (.cells #[.int .i64 op, .int .i64 ar] 48)).drew := (Kept.refl _ _).drew
 clear HX0 HGX
 generalize w.alloc (.cells #[.int .i64 op, .int .i64 ar] 48) = w1 at *
 generalize w.heap.size = gx at *
 have HXd := hid_of (HX.out.same hkd)
 have HBd := hid_of (box_kept hkd HB.out id)
 have HOd := hid_of (HO1.out.trans (Kept.othG hkd))
 clear HX HB HO1 hkd
 refine wp_region_held_drew (S := fun w' => w' = w1.drew) (by kernel_rfl) rfl (fun hHeld => ?_)
 generalize w1.drew = wd at *
 obtain ⟨cs, cv, ms, gk, hcc, hmm, hc1, hm1⟩ := HXd.out.parts HFS.out
 obtain ⟨fg, fc, lg, lc, hfv, hlv, x1, x2, hco, hmp, hb1, hb2⟩ := HXd.out.cells HFS.out hcc hmm hc1 hm1
 have HPT : Hid (CV = cs ++ [cv] ∧ GM = ms ++ [gk] ∧ cs.length = gs.length ∧ ms.length = gs.length) := ⟨hcc, hmm, hc1, hm1⟩
 have hfl := HXd.out.fns
 have HLA := hid_of (lastG HXd.out.toRdZ gs f HFS.out (by have := HBD.out; omega))
 obtain ⟨ca, cc, hcv⟩ := ownsRow_shape hco
 obtain ⟨nc, hnc⟩ := nmd (f.code.length)
 have HNC := hid_of hnc
 rw [← hnc] at hcv
 have r2 := cell_block _ _ 2 _ _ _ HXd.out.box
 have r4 := cell_block _ _ 4 _ _ _ HXd.out.box
 have r5 := cell_block _ _ 5 _ _ _ HXd.out.box
 have HB1 := hid_of hb1
 obtain ⟨m, hm⟩ := nmd (gs.length)
 have HMM := hid_of hm
 rw [← hm] at HLA hfv hlv x1 x2
 obtain ⟨mm, hmm2⟩ := nmd (m + 1)
 rw [← hmm2] at hfv hlv
 have hmI : (m : Int) < (mm : Int) := by omega
 have hmB : (m : Int) ≤ 80000 := by have := HBD.out.1; omega
 have HFV := hid_of hfv
 rw [hfv] at r2
 rw [hlv] at r5
 have HNCB : Hid (nc ≤ 90000) := by show nc ≤ 90000; rw [hnc]; exact HBD.out.2.1
 have HCN : Hid (cv.ownBlock ≠ some gx) := HGC.out cv (by rw [hcc]; simp)
 have HCVE := hid_of hcv
 clear hnc hm hmm2 hb1 hb2 hcc hmm hc1 hm1 hmp hco hfl hfv hlv HGC
 iterate 4
  refine tkn (v := ?_) 0 rfl ?_ ?_; rotate_left 1
  ·intro w hSw; go_simp; try with_reducible rfl
  try simp only [Act.put, tdy]
 iterate 1
  refine tkn (v := ?_) 4 rfl ?_ ?_; rotate_left 1
  ·intro w hSw; have hSw := hSw.symm; subst hSw; go_simp; try with_reducible rfl
  try simp only [Act.put, tdy]
 iterate 1
  refine tkn (v := ?_) 5 rfl ?_ ?_; rotate_left 1
  ·intro w hSw; go_simp; try with_reducible rfl
  try simp only [Act.put, tdy]
 refine rdy 6 rfl (fun K hK => ?_)
 go_simp
 refine HLA.out.mono ?_
 rintro e w4 ⟨rfl, hw⟩
 have hw := hw.symm
 subst hw
 refine hK.out _ _ hHeld (fun hHeld => ?_)
 clear hK K
 try simp only [Act.put, tdy]
 iterate 1
  refine tkn (v := ?_) 7 rfl ?_ ?_; rotate_left 1
  ·intro w hSw; go_simp; try with_reducible rfl
  try simp only [Act.put, tdy]
 refine rdy 8 rfl (fun K hK => ?_)
 go_simp
 refine hK.out _ _ hHeld (fun hHeld => ?_)
 clear hK K
 try simp only [Act.put, tdy]
 refine wpAnyH_done (by kernel_rfl) ?_ _
 by_cases hs : s = ⟨#[]⟩
 ·subst hs
  have y1 : wd.cell? ⟨fg, m * 4 + 3, none⟩ = some cv := x1
  have HXt := HXd
  have HBt := HBd
  have HOt := HOd
  clear x1 x2 r2 r4 r5 HLA HXd HBd HOd hHeld
  go_upto_region 7 with fail
  have hkf : Kept (fun _ => False) wd wd.drew := (Kept.refl _ _).drew
  have HXf := hid_of (HXt.out.same hkf)
  have HBf := hid_of (box_kept hkf HBt.out id)
  have HOf := hid_of (HOt.out.trans (Kept.othG hkf))
  have y1f := hkf.cell y1 id
  clear y1 HXt HBt HOt hkf
  refine wp_region_held_drew (S := fun w' => Kept (fun q => cv.ownBlock = some q ∨ q = fg) wd.drew w') (by kernel_rfl) (Kept.refl _ _) (fun hHeld => ?_)
  generalize wd.drew = wf at *
  obtain ⟨da, dm, dc, w5, hr5, hk5, ho5, g1, gf1, hx6, ho6, hfgl⟩ := HXf.out.pushC (gs := gs) (f := f) HFS.out HPT.out.1 HPT.out.2.2.1 fg mm fc HFV.out op ar (by have := HNCB.out; have := HNC.out; omega)
  rw [← HMM.out] at g1 gf1 hx6 ho6
  have HKS5 := hid_of (hk5.mono (T := fun q => cv.ownBlock = some q ∨ q = fg) (fun _ _ e => .inl e))
  have HKS6 := hid_of (HKS5.out.setCell (p := ⟨fg, m * 4 + 3, none⟩) (.inr (.inr rfl)) (.slice da dm dc))
  have HNX : Hid (¬ (cv.ownBlock = some gx ∨ gx = fg)) := fun e => by
   rcases e with e | e
   ·exact HCN.out e
   ·exact HGF.out (by rw [HFV.out, e]; rfl)
  have HSM : Hid (∀ w', Kept (fun q => cv.ownBlock = some q ∨ q = fg) wf w' → w'.cell? ⟨gx, 0, none⟩ = some (.int .i64 op) ∧ w'.cell? ⟨gx, 1, none⟩ = some (.int .i64 ar)) := fun w' hw =>
   ⟨hw.cell (cell_block _ _ 0 _ _ _ HBf.out) HNX.out, hw.cell (cell_block _ _ 1 _ _ _ HBf.out) HNX.out⟩
  have HG1 : Hid (w5.cell? ⟨fg, m * 4 + 3, none⟩ = some cv ∧ w5.frozen? ⟨fg, m * 4 + 3, none⟩ = false) := ⟨g1, gf1⟩
  have HFI : Hid (AddR w0 w r R' (.returned (.tuple #[])) (w5.setCell ⟨fg, m * 4 + 3, none⟩ (.slice da dm dc))) := by
   refine ⟨⟨_, rfl⟩, ?_, HOf.out.trans (ho5.trans ho6)⟩
   rw [HR'.out]
   have hws : R.ws ++ addW gs.length f ln op ⟨#[]⟩ = R.ws := by simp [addW]
   rw [hws]
   exact ⟨_, _, _, _, _, _, _, hx6⟩
  have HR5 := hid_of hr5
  rw [HCVE.out] at y1f HR5 HG1
  clear hr5 hk5 ho5 g1 gf1 hx6 ho6 hfgl HXf HBf HOf
  iterate 4
   refine tkn (v := ?_) 0 rfl ?_ ?_; rotate_left 1
   ·intro w hSw; go_simp; try with_reducible rfl
   try simp only [Act.put, tdy]
  iterate 1
   refine tkn (v := ?_) 5 rfl ?_ ?_; rotate_left 1
   ·intro w hSw; obtain ⟨s0, s1⟩ := HSM.out w hSw; go_simp; try with_reducible rfl
   try simp only [Act.put, tdy]
  refine wpAnyH_ready (rs := [4, 6]) (by kernel_rfl) (by simp) ?_
  refine AllReadyH.cons rfl (fun K hK => ?_) (AllReadyH.cons rfl (fun K hK => ?_) AllReadyH.nil)
  ·have l1 := y1f
   go_simp
   refine hK.out _ _ hHeld (fun hHeld => ?_)
   clear hK K
   try simp only [Act.put, tdy]
   clear l1
   refine rdy 6 rfl (fun K hK => ?_)
   go_simp
   refine hK.out _ _ (hHeld.alloc _) (fun hHeld => ?_)
   clear hK K
   try simp only [Act.put, tdy]
   refine rdy 7 rfl (fun K hK => ?_)
   refine step_app rfl (.tmp 60) (.tmp 62) 49 49 rfl _ _ rfl rfl (.slice da dm dc) w5 HR5.out ?_
   refine hK.out _ _ HKS5.out (fun hHeld => ?_)
   clear hK K
   try simp only [Act.put, tdy]
   iterate 2
    refine tkn (v := ?_) 8 rfl ?_ ?_; rotate_left 1
    ·intro w hSw; go_simp; try with_reducible rfl
    try simp only [Act.put, tdy]
   obtain ⟨g1, gf1⟩ := HG1.out
   refine rdy 10 rfl (fun K hK => ?_)
   go_simp
   refine hK.out _ _ HKS6.out (fun hHeld => ?_)
   clear hK K
   try simp only [Act.put, tdy]
   refine wpAnyH_done (by kernel_rfl) ?_ _
   go_wp2
   refine bodyPost_end (results_none rfl _ _ _) rfl ?_
   exact HFI.out
  ·go_simp
   refine hK.out _ _ (hHeld.alloc _) (fun hHeld => ?_)
   clear hK K
   try simp only [Act.put, tdy]
   have l1 : (wf.alloc (.cells #[.int .i64 op, .int .i64 ar] 48)).cell? ⟨fg, m * 4 + 3, none⟩ = some (.slice ca nc cc) := ((Kept.refl (fun _ => False) wf).alloc _).cell y1f id
   refine rdy 4 rfl (fun K hK => ?_)
   go_simp
   refine hK.out _ _ hHeld (fun hHeld => ?_)
   clear hK K
   try simp only [Act.put, tdy]
   clear l1
   refine rdy 7 rfl (fun K hK => ?_)
   refine step_app rfl (.tmp 60) (.tmp 62) 49 49 rfl _ _ rfl rfl (.slice da dm dc) w5 HR5.out ?_
   refine hK.out _ _ HKS5.out (fun hHeld => ?_)
   clear hK K
   try simp only [Act.put, tdy]
   iterate 2
    refine tkn (v := ?_) 8 rfl ?_ ?_; rotate_left 1
    ·intro w hSw; go_simp; try with_reducible rfl
    try simp only [Act.put, tdy]
   obtain ⟨g1, gf1⟩ := HG1.out
   refine rdy 10 rfl (fun K hK => ?_)
   go_simp
   refine hK.out _ _ HKS6.out (fun hHeld => ?_)
   clear hK K
   try simp only [Act.put, tdy]
   refine wpAnyH_done (by kernel_rfl) ?_ _
   go_wp2
   refine bodyPost_end (results_none rfl _ _ _) rfl ?_
   exact HFI.out
 ·have HSN := hid_of hs
  have hse : s.toList.isEmpty = false := by
   cases e : s.toList.isEmpty with
   | false => rfl
   | true => exact absurd (txt_eq (a := s) (b := ⟨#[]⟩) (by rw [List.isEmpty_iff.1 e]; simp [ByteArray.toList, ByteArray.toList.loop, ByteArray.size])) hs
  clear hs hHeld
  go_upto_region 3 with fail
  have hkd : Kept (fun _ => False) wd wd.drew := (Kept.refl _ _).drew
  have HXe := hid_of (HXd.out.same hkd)
  have HBe := hid_of (box_kept hkd HBd.out id)
  have HOe := hid_of (HOd.out.trans (Kept.othG hkd))
  obtain ⟨cb1, hb1⟩ := HB1.out
  have HB1e := hid_of (box_kept hkd hb1 id)
  have y1e := hkd.cell x1 id
  have x2e := hkd.cell x2 id
  have r4e := hkd.cell r4 id
  have r5e := hkd.cell r5 id
  clear hb1 hkd x1 x2 r2 r4 r5 HLA HXd HBd HOd HB1
  refine wp_region_held_drew (S := fun w' => w' = wd.drew) (by kernel_rfl) rfl (fun hHeld => ?_)
  generalize wd.drew = we at *
  have HLA := hid_of (lastG HXe.out.toRdZ gs f HFS.out (by have := HBD.out; omega))
  rw [← HMM.out] at HLA
  iterate 3
   refine tkn (v := ?_) 0 rfl ?_ ?_; rotate_left 1
   ·intro w hSw; go_simp; try with_reducible rfl
   try simp only [Act.put, tdy]
  iterate 1
   refine tkn (v := ?_) 3 rfl ?_ ?_; rotate_left 1
   ·intro w hSw; have hSw := hSw.symm; subst hSw; go_simp; try with_reducible rfl
   try simp only [Act.put, tdy]
  iterate 1
   refine tkn (v := ?_) 4 rfl ?_ ?_; rotate_left 1
   ·intro w hSw; go_simp; try with_reducible rfl
   try simp only [Act.put, tdy]
  refine rdy 5 rfl (fun K hK => ?_)
  go_simp
  refine HLA.out.mono ?_
  rintro e w4 ⟨rfl, hw⟩
  have hw := hw.symm
  subst hw
  refine hK.out _ _ hHeld (fun hHeld => ?_)
  clear hK K
  try simp only [Act.put, tdy]
  iterate 1
   refine tkn (v := ?_) 6 rfl ?_ ?_; rotate_left 1
   ·intro w hSw; go_simp; try with_reducible rfl
   try simp only [Act.put, tdy]
  iterate 1
   refine tkn (v := ?_) 7 rfl ?_ ?_; rotate_left 1
   ·intro w hSw; have hSw := hSw.symm; subst hSw; go_simp; try with_reducible rfl
   try simp only [Act.put, tdy]
  refine rdy 8 rfl (fun K hK => ?_)
  go_simp
  refine hK.out _ _ hHeld (fun hHeld => ?_)
  clear hK K
  try simp only [Act.put, tdy]
  refine wpAnyH_done (by kernel_rfl) ?_ _
  clear hHeld HLA x2e r5e
  have z0 := cell_block _ _ 0 _ _ _ HBe.out
  by_cases hj : op = 17
  ·have HJ := hid_of hj
   have e17 : (op == 17) = true := by rw [hj]; rfl
   clear hj
   go_upto_region 6 with fail
   have hkf : Kept (fun _ => False) we we.drew := (Kept.refl _ _).drew
   have HXg := hid_of (HXe.out.same hkf)
   have HBg := hid_of (box_kept hkf HBe.out id)
   have HOg := hid_of (HOe.out.trans (Kept.othG hkf))
   have HB1g := hid_of (box_kept hkf HB1e.out id)
   have y1g := hkf.cell y1e id
   clear y1e HXe HBe HOe HB1e hkf r4e
   refine wp_region_held_drew (S := fun w' => Kept (fun q => wv.ownBlock = some q ∨ q = r) we.drew w') (by kernel_rfl) (Kept.refl _ _) (fun hHeld => ?_)
   generalize we.drew = wg at *
   have HLA := hid_of (lastG HXg.out.toRdZ gs f HFS.out (by have := HBD.out; omega))
   rw [← HMM.out] at HLA
   obtain ⟨wa5, wm5, wc5, w5, hr5, hk5, ho5, hb5, hx6, ho6⟩ := HXg.out.pushW ⟨ln, m, nc, s, false⟩ (by have := HBD.out; omega)
   have hmk : wtM gm GM ⟨ln, m, nc, s, false⟩ = gm := by
    rfl
   rw [hmk] at hr5
   clear hmk
   have l0 := cell_block _ _ 6 _ _ _ HXg.out.box
   have hfr : ¬ (wv.ownBlock = some fg ∨ fg = r) := fun e => e.elim (fun e => own_box2 HXg.out.wts HB1g.out (by decide) e) (fun e => box_ne HB1g.out HXg.out.box (by decide) e)
   have HFR := hid_of hfr
   have HSM : Hid (∀ w', Kept (fun q => wv.ownBlock = some q ∨ q = r) wg w' → w'.cell? ⟨fg, m * 4 + 3, none⟩ = some cv) := fun w' hw => hw.cell y1g hfr
   have HKS5 := hid_of (hk5.mono (T := fun q => wv.ownBlock = some q ∨ q = r) (fun _ _ e => .inl e))
   have HKS6 := hid_of (HKS5.out.setCell (p := ⟨r, 6, none⟩) (.inr (.inr rfl)) (.slice wa5 wm5 wc5))
   have HG1 := hid_of (And.intro (cell_block _ _ 6 _ _ _ hb5) (frozen_block _ _ 6 _ _ hb5))
   have HXt := hid_of hx6
   have HBt := hid_of (box_kept HKS6.out HBg.out (fun e => e.elim (fun e => HGW.out e) (fun e => HGR.out e)))
   have HOt := hid_of (HOg.out.trans (ho5.trans ho6))
   have y1 := HKS6.out.cell y1g hfr
   have HY1 := hid_of y1
   obtain ⟨wa, wc, hwv⟩ := ownsRow_shape HXg.out.wts
   obtain ⟨wn, hwn⟩ := nmd (R.ws.length)
   rw [← hwn] at hwv
   have HR5 := hid_of hr5
   rw [hwv] at l0 HR5 HG1
   rw [HCVE.out] at HSM
   clear hr5 hk5 ho5 hb5 hx6 ho6 hwn hfr y1 y1g
   iterate 4
    refine tkn (v := ?_) 0 rfl ?_ ?_; rotate_left 1
    ·intro w hSw; go_simp; try with_reducible rfl
    try simp only [Act.put, tdy]
   iterate 2
    refine tkn (v := ?_) 5 rfl ?_ ?_; rotate_left 1
    ·intro w hSw; go_simp; try with_reducible rfl
    try simp only [Act.put, tdy]
   iterate 3
    refine tkn (v := ?_) 8 rfl ?_ ?_; rotate_left 1
    ·intro w hSw; go_simp; try with_reducible rfl
    try simp only [Act.put, tdy]
   iterate 1
    refine tkn (v := ?_) 11 rfl ?_ ?_; rotate_left 1
    ·intro w hSw; have s0 := HSM.out w hSw; go_simp; try with_reducible rfl
    try simp only [Act.put, tdy]
   iterate 1
    refine tkn (v := ?_) 12 rfl ?_ ?_; rotate_left 1
    ·intro w hSw; go_simp; try with_reducible rfl
    try simp only [Act.put, tdy]
   iterate 2
    refine tkn (v := ?_) 14 rfl ?_ ?_; rotate_left 1
    ·intro w hSw; go_simp; try with_reducible rfl
    try simp only [Act.put, tdy]
   refine (fun (hfin : ?G) => ?main) ?fin
   case main =>
    refine wpAnyH_ready (rs := [4, 7]) (by kernel_rfl) (by simp) ?_
    refine AllReadyH.cons rfl (fun K hK => ?_) (AllReadyH.cons rfl (fun K hK => ?_) AllReadyH.nil)
    ·have l1 := l0
     go_simp
     refine hK.out _ _ hHeld (fun hHeld => ?_)
     clear hK K
     try simp only [Act.put, tdy]
     clear l1
     refine rdy 7 rfl (fun K hK => ?_)
     go_simp
     refine HLA.out.mono ?_
     rintro e w4 ⟨rfl, hw⟩
     have hw := hw.symm
     subst hw
     refine hK.out _ _ hHeld (fun hHeld => ?_)
     clear hK K
     try simp only [Act.put, tdy]
     iterate 1
      refine tkn (v := ?_) 13 rfl ?_ ?_; rotate_left 1
      ·intro w hSw; go_simp; try with_reducible rfl
      try simp only [Act.put, tdy]
     refine tkn (v := .agg #[.int .i64 ln, .int .i64 (m : Int), .int .i64 (nc : Int), .string s, .map (some gm)]) 16 rfl ?_ ?_
     ·intro w hSw; exact exec135 _ _ w ln (m : Int) (nc : Int) s gm _ _ _ _ rfl rfl rfl rfl rfl
     try simp only [Act.put, tdy]
     refine rdy 17 rfl (fun K hK => ?_)
     go_simp
     refine hK.out _ _ (hHeld.alloc _) (fun hHeld => ?_)
     clear hK K
     try simp only [Act.put, tdy]
     refine rdy 18 rfl (fun K hK => ?_)
     refine step_app rfl (.tmp 39) (.tmp 52) 91 91 rfl _ _ rfl rfl (.slice wa5 wm5 wc5) w5 HR5.out ?_
     refine hK.out _ _ HKS5.out (fun hHeld => ?_)
     clear hK K
     try simp only [Act.put, tdy]
     iterate 2
      refine tkn (v := ?_) 19 rfl ?_ ?_; rotate_left 1
      ·intro w hSw; go_simp; try with_reducible rfl
      try simp only [Act.put, tdy]
     obtain ⟨g1, gf1⟩ := HG1.out
     refine rdy 21 rfl (fun K hK => ?_)
     go_simp
     refine hK.out _ _ HKS6.out (fun hHeld => ?_)
     clear hK K
     try simp only [Act.put, tdy]
     refine wpAnyH_done (by kernel_rfl) ?_ _
     exact hfin
    ·go_simp
     refine HLA.out.mono ?_
     rintro e w4 ⟨rfl, hw⟩
     have hw := hw.symm
     subst hw
     refine hK.out _ _ hHeld (fun hHeld => ?_)
     clear hK K
     try simp only [Act.put, tdy]
     iterate 1
      refine tkn (v := ?_) 13 rfl ?_ ?_; rotate_left 1
      ·intro w hSw; go_simp; try with_reducible rfl
      try simp only [Act.put, tdy]
     refine tkn (v := .agg #[.int .i64 ln, .int .i64 (m : Int), .int .i64 (nc : Int), .string s, .map (some gm)]) 16 rfl ?_ ?_
     ·intro w hSw; exact exec135 _ _ w ln (m : Int) (nc : Int) s gm _ _ _ _ rfl rfl rfl rfl rfl
     try simp only [Act.put, tdy]
     refine wpAnyH_ready (rs := [4, 17]) (by kernel_rfl) (by simp) ?_
     refine AllReadyH.cons rfl (fun K hK => ?_) (AllReadyH.cons rfl (fun K hK => ?_) AllReadyH.nil)
     ·have l1 := l0
      go_simp
      refine hK.out _ _ hHeld (fun hHeld => ?_)
      clear hK K
      try simp only [Act.put, tdy]
      clear l1
      refine rdy 17 rfl (fun K hK => ?_)
      go_simp
      refine hK.out _ _ (hHeld.alloc _) (fun hHeld => ?_)
      clear hK K
      try simp only [Act.put, tdy]
      refine rdy 18 rfl (fun K hK => ?_)
      refine step_app rfl (.tmp 39) (.tmp 52) 91 91 rfl _ _ rfl rfl (.slice wa5 wm5 wc5) w5 HR5.out ?_
      refine hK.out _ _ HKS5.out (fun hHeld => ?_)
      clear hK K
      try simp only [Act.put, tdy]
      iterate 2
       refine tkn (v := ?_) 19 rfl ?_ ?_; rotate_left 1
       ·intro w hSw; go_simp; try with_reducible rfl
       try simp only [Act.put, tdy]
      obtain ⟨g1, gf1⟩ := HG1.out
      refine rdy 21 rfl (fun K hK => ?_)
      go_simp
      refine hK.out _ _ HKS6.out (fun hHeld => ?_)
      clear hK K
      try simp only [Act.put, tdy]
      refine wpAnyH_done (by kernel_rfl) ?_ _
      exact hfin
     ·go_simp
      refine hK.out _ _ (hHeld.alloc _) (fun hHeld => ?_)
      clear hK K
      try simp only [Act.put, tdy]
      refine rdy 4 rfl (fun K hK => ?_)
      have l1 : (wg.alloc (.cells #[.int .i64 ln, .int .i64 (m : Int), .int .i64 (nc : Int), .string s, .map (some gm)] 130)).cell? ⟨r, 6, none⟩ = some (.slice wa wn wc) := ((Kept.refl (fun _ => False) wg).alloc _).cell l0 id
      go_simp
      refine hK.out _ _ hHeld (fun hHeld => ?_)
      clear hK K
      try simp only [Act.put, tdy]
      clear l1
      refine rdy 18 rfl (fun K hK => ?_)
      refine step_app rfl (.tmp 39) (.tmp 52) 91 91 rfl _ _ rfl rfl (.slice wa5 wm5 wc5) w5 HR5.out ?_
      refine hK.out _ _ HKS5.out (fun hHeld => ?_)
      clear hK K
      try simp only [Act.put, tdy]
      iterate 2
       refine tkn (v := ?_) 19 rfl ?_ ?_; rotate_left 1
       ·intro w hSw; go_simp; try with_reducible rfl
       try simp only [Act.put, tdy]
      obtain ⟨g1, gf1⟩ := HG1.out
      refine rdy 21 rfl (fun K hK => ?_)
      go_simp
      refine hK.out _ _ HKS6.out (fun hHeld => ?_)
      clear hK K
      try simp only [Act.put, tdy]
      refine wpAnyH_done (by kernel_rfl) ?_ _
      exact hfin
   clear l0 HSM HKS5 HKS6 HG1 HR5 HLA hHeld HXg HBg HOg hwv
   generalize w5.setCell ⟨r, 6, none⟩ (.slice wa5 wm5 wc5) = wh at *
   have y1 := HY1.out
   clear HY1
   go_upto_region 7 with fail
   have hkf : Kept (fun _ => False) wh wh.drew := (Kept.refl _ _).drew
   have HXf := hid_of (HXt.out.same hkf)
   have HBf := hid_of (box_kept hkf HBt.out id)
   have HOf := hid_of (HOt.out.trans (Kept.othG hkf))
   have y1f := hkf.cell y1 id
   clear y1 HXt HBt HOt hkf
   refine wp_region_held_drew (S := fun w' => Kept (fun q => cv.ownBlock = some q ∨ q = fg) wh.drew w') (by kernel_rfl) (Kept.refl _ _) (fun hHeld => ?_)
   generalize wh.drew = wf at *
   obtain ⟨da, dm, dc, w5, hr5, hk5, ho5, g1, gf1, hx6, ho6, hfgl⟩ := HXf.out.pushC (gs := gs) (f := f) HFS.out HPT.out.1 HPT.out.2.2.1 fg mm fc HFV.out op ar (by have := HNCB.out; have := HNC.out; omega)
   rw [← HMM.out] at g1 gf1 hx6 ho6
   have HKS5 := hid_of (hk5.mono (T := fun q => cv.ownBlock = some q ∨ q = fg) (fun _ _ e => .inl e))
   have HKS6 := hid_of (HKS5.out.setCell (p := ⟨fg, m * 4 + 3, none⟩) (.inr (.inr rfl)) (.slice da dm dc))
   have HNX : Hid (¬ (cv.ownBlock = some gx ∨ gx = fg)) := fun e => by
    rcases e with e | e
    ·exact HCN.out e
    ·exact HGF.out (by rw [HFV.out, e]; rfl)
   have HSM : Hid (∀ w', Kept (fun q => cv.ownBlock = some q ∨ q = fg) wf w' → w'.cell? ⟨gx, 0, none⟩ = some (.int .i64 op) ∧ w'.cell? ⟨gx, 1, none⟩ = some (.int .i64 ar)) := fun w' hw =>
    ⟨hw.cell (cell_block _ _ 0 _ _ _ HBf.out) HNX.out, hw.cell (cell_block _ _ 1 _ _ _ HBf.out) HNX.out⟩
   have HG1 : Hid (w5.cell? ⟨fg, m * 4 + 3, none⟩ = some cv ∧ w5.frozen? ⟨fg, m * 4 + 3, none⟩ = false) := ⟨g1, gf1⟩
   have HFI : Hid (AddR w0 w r R' (.returned (.tuple #[])) (w5.setCell ⟨fg, m * 4 + 3, none⟩ (.slice da dm dc))) := by
    refine ⟨⟨_, rfl⟩, ?_, HOf.out.trans (ho5.trans ho6)⟩
    rw [HR'.out]
    have hws : R.ws ++ addW gs.length f ln op s = R.ws ++ [⟨ln, m, nc, s, false⟩] := by
     unfold addW
     rw [if_neg HSN.out, HMM.out, HNC.out]
     rw [decide_eq_true HJ.out]; rfl
    rw [hws]
    exact ⟨_, _, _, _, _, _, _, hx6⟩
   have HR5 := hid_of hr5
   rw [HCVE.out] at y1f HR5 HG1
   clear hr5 hk5 ho5 g1 gf1 hx6 ho6 hfgl HXf HBf HOf
   iterate 4
    refine tkn (v := ?_) 0 rfl ?_ ?_; rotate_left 1
    ·intro w hSw; go_simp; try with_reducible rfl
    try simp only [Act.put, tdy]
   iterate 1
    refine tkn (v := ?_) 5 rfl ?_ ?_; rotate_left 1
    ·intro w hSw; obtain ⟨s0, s1⟩ := HSM.out w hSw; go_simp; try with_reducible rfl
    try simp only [Act.put, tdy]
   refine wpAnyH_ready (rs := [4, 6]) (by kernel_rfl) (by simp) ?_
   refine AllReadyH.cons rfl (fun K hK => ?_) (AllReadyH.cons rfl (fun K hK => ?_) AllReadyH.nil)
   ·have l1 := y1f
    go_simp
    refine hK.out _ _ hHeld (fun hHeld => ?_)
    clear hK K
    try simp only [Act.put, tdy]
    clear l1
    refine rdy 6 rfl (fun K hK => ?_)
    go_simp
    refine hK.out _ _ (hHeld.alloc _) (fun hHeld => ?_)
    clear hK K
    try simp only [Act.put, tdy]
    refine rdy 7 rfl (fun K hK => ?_)
    refine step_app rfl (.tmp 60) (.tmp 62) 49 49 rfl _ _ rfl rfl (.slice da dm dc) w5 HR5.out ?_
    refine hK.out _ _ HKS5.out (fun hHeld => ?_)
    clear hK K
    try simp only [Act.put, tdy]
    iterate 2
     refine tkn (v := ?_) 8 rfl ?_ ?_; rotate_left 1
     ·intro w hSw; go_simp; try with_reducible rfl
     try simp only [Act.put, tdy]
    obtain ⟨g1, gf1⟩ := HG1.out
    refine rdy 10 rfl (fun K hK => ?_)
    go_simp
    refine hK.out _ _ HKS6.out (fun hHeld => ?_)
    clear hK K
    try simp only [Act.put, tdy]
    refine wpAnyH_done (by kernel_rfl) ?_ _
    go_wp2
    refine bodyPost_end (results_none rfl _ _ _) rfl ?_
    exact HFI.out
   ·go_simp
    refine hK.out _ _ (hHeld.alloc _) (fun hHeld => ?_)
    clear hK K
    try simp only [Act.put, tdy]
    have l1 : (wf.alloc (.cells #[.int .i64 op, .int .i64 ar] 48)).cell? ⟨fg, m * 4 + 3, none⟩ = some (.slice ca nc cc) := ((Kept.refl (fun _ => False) wf).alloc _).cell y1f id
    refine rdy 4 rfl (fun K hK => ?_)
    go_simp
    refine hK.out _ _ hHeld (fun hHeld => ?_)
    clear hK K
    try simp only [Act.put, tdy]
    clear l1
    refine rdy 7 rfl (fun K hK => ?_)
    refine step_app rfl (.tmp 60) (.tmp 62) 49 49 rfl _ _ rfl rfl (.slice da dm dc) w5 HR5.out ?_
    refine hK.out _ _ HKS5.out (fun hHeld => ?_)
    clear hK K
    try simp only [Act.put, tdy]
    iterate 2
     refine tkn (v := ?_) 8 rfl ?_ ?_; rotate_left 1
     ·intro w hSw; go_simp; try with_reducible rfl
     try simp only [Act.put, tdy]
    obtain ⟨g1, gf1⟩ := HG1.out
    refine rdy 10 rfl (fun K hK => ?_)
    go_simp
    refine hK.out _ _ HKS6.out (fun hHeld => ?_)
    clear hK K
    try simp only [Act.put, tdy]
    refine wpAnyH_done (by kernel_rfl) ?_ _
    go_wp2
    refine bodyPost_end (results_none rfl _ _ _) rfl ?_
    exact HFI.out
  ·have HJ := hid_of hj
   have e17 : (op == 17) = false := by simp; exact hj
   clear hj
   go_upto_region 6 with fail
   have hkf : Kept (fun _ => False) we we.drew := (Kept.refl _ _).drew
   have HXg := hid_of (HXe.out.same hkf)
   have HBg := hid_of (box_kept hkf HBe.out id)
   have HOg := hid_of (HOe.out.trans (Kept.othG hkf))
   have HB1g := hid_of (box_kept hkf HB1e.out id)
   have y1g := hkf.cell y1e id
   clear y1e HXe HBe HOe HB1e hkf r4e
   refine wp_region_held_drew (S := fun w' => Kept (fun q => wv.ownBlock = some q ∨ q = r) we.drew w') (by kernel_rfl) (Kept.refl _ _) (fun hHeld => ?_)
   generalize we.drew = wg at *
   have HLA := hid_of (lastG HXg.out.toRdZ gs f HFS.out (by have := HBD.out; omega))
   rw [← HMM.out] at HLA
   obtain ⟨wa5, wm5, wc5, w5, hr5, hk5, ho5, hb5, hx6, ho6⟩ := HXg.out.pushW ⟨ln, m, nc, s, true⟩ (by have := HBD.out; omega)
   have hmk : wtM gm GM ⟨ln, m, nc, s, true⟩ = gk := by
    show GM.getD m 0 = gk
    rw [HPT.out.2.1, HMM.out, ← HPT.out.2.2.2, List.getD_eq_getElem?_getD, snoc_last]
    rfl
   rw [hmk] at hr5
   clear hmk
   have l0 := cell_block _ _ 6 _ _ _ HXg.out.box
   have hfr : ¬ (wv.ownBlock = some fg ∨ fg = r) := fun e => e.elim (fun e => own_box2 HXg.out.wts HB1g.out (by decide) e) (fun e => box_ne HB1g.out HXg.out.box (by decide) e)
   have HFR := hid_of hfr
   have HSM : Hid (∀ w', Kept (fun q => wv.ownBlock = some q ∨ q = r) wg w' → w'.cell? ⟨fg, m * 4 + 3, none⟩ = some cv) := fun w' hw => hw.cell y1g hfr
   have HKS5 := hid_of (hk5.mono (T := fun q => wv.ownBlock = some q ∨ q = r) (fun _ _ e => .inl e))
   have HKS6 := hid_of (HKS5.out.setCell (p := ⟨r, 6, none⟩) (.inr (.inr rfl)) (.slice wa5 wm5 wc5))
   have HG1 := hid_of (And.intro (cell_block _ _ 6 _ _ _ hb5) (frozen_block _ _ 6 _ _ hb5))
   have HXt := hid_of hx6
   have HBt := hid_of (box_kept HKS6.out HBg.out (fun e => e.elim (fun e => HGW.out e) (fun e => HGR.out e)))
   have HOt := hid_of (HOg.out.trans (ho5.trans ho6))
   have y1 := HKS6.out.cell y1g hfr
   have HY1 := hid_of y1
   obtain ⟨wa, wc, hwv⟩ := ownsRow_shape HXg.out.wts
   obtain ⟨wn, hwn⟩ := nmd (R.ws.length)
   rw [← hwn] at hwv
   have HR5 := hid_of hr5
   rw [hwv] at l0 HR5 HG1
   rw [HCVE.out] at HSM
   clear hr5 hk5 ho5 hb5 hx6 ho6 hwn hfr y1 y1g
   iterate 4
    refine tkn (v := ?_) 0 rfl ?_ ?_; rotate_left 1
    ·intro w hSw; go_simp; try with_reducible rfl
    try simp only [Act.put, tdy]
   iterate 2
    refine tkn (v := ?_) 5 rfl ?_ ?_; rotate_left 1
    ·intro w hSw; go_simp; try with_reducible rfl
    try simp only [Act.put, tdy]
   iterate 3
    refine tkn (v := ?_) 8 rfl ?_ ?_; rotate_left 1
    ·intro w hSw; go_simp; try with_reducible rfl
    try simp only [Act.put, tdy]
   iterate 1
    refine tkn (v := ?_) 11 rfl ?_ ?_; rotate_left 1
    ·intro w hSw; have s0 := HSM.out w hSw; go_simp; try with_reducible rfl
    try simp only [Act.put, tdy]
   iterate 1
    refine tkn (v := ?_) 12 rfl ?_ ?_; rotate_left 1
    ·intro w hSw; go_simp; try with_reducible rfl
    try simp only [Act.put, tdy]
   iterate 2
    refine tkn (v := ?_) 14 rfl ?_ ?_; rotate_left 1
    ·intro w hSw; go_simp; try with_reducible rfl
    try simp only [Act.put, tdy]
   refine (fun (hfin : ?G2) => ?main2) ?fin2
   case main2 =>
    refine wpAnyH_ready (rs := [4, 7]) (by kernel_rfl) (by simp) ?_
    refine AllReadyH.cons rfl (fun K hK => ?_) (AllReadyH.cons rfl (fun K hK => ?_) AllReadyH.nil)
    ·have l1 := l0
     go_simp
     refine hK.out _ _ hHeld (fun hHeld => ?_)
     clear hK K
     try simp only [Act.put, tdy]
     clear l1
     refine rdy 7 rfl (fun K hK => ?_)
     go_simp
     refine HLA.out.mono ?_
     rintro e w4 ⟨rfl, hw⟩
     have hw := hw.symm
     subst hw
     refine hK.out _ _ hHeld (fun hHeld => ?_)
     clear hK K
     try simp only [Act.put, tdy]
     iterate 1
      refine tkn (v := ?_) 13 rfl ?_ ?_; rotate_left 1
      ·intro w hSw; go_simp; try with_reducible rfl
      try simp only [Act.put, tdy]
     refine tkn (v := .agg #[.int .i64 ln, .int .i64 (m : Int), .int .i64 (nc : Int), .string s, .map (some gk)]) 16 rfl ?_ ?_
     ·intro w hSw; exact exec135 _ _ w ln (m : Int) (nc : Int) s gk _ _ _ _ rfl rfl rfl rfl rfl
     try simp only [Act.put, tdy]
     refine rdy 17 rfl (fun K hK => ?_)
     go_simp
     refine hK.out _ _ (hHeld.alloc _) (fun hHeld => ?_)
     clear hK K
     try simp only [Act.put, tdy]
     refine rdy 18 rfl (fun K hK => ?_)
     refine step_app rfl (.tmp 39) (.tmp 52) 91 91 rfl _ _ rfl rfl (.slice wa5 wm5 wc5) w5 HR5.out ?_
     refine hK.out _ _ HKS5.out (fun hHeld => ?_)
     clear hK K
     try simp only [Act.put, tdy]
     iterate 2
      refine tkn (v := ?_) 19 rfl ?_ ?_; rotate_left 1
      ·intro w hSw; go_simp; try with_reducible rfl
      try simp only [Act.put, tdy]
     obtain ⟨g1, gf1⟩ := HG1.out
     refine rdy 21 rfl (fun K hK => ?_)
     go_simp
     refine hK.out _ _ HKS6.out (fun hHeld => ?_)
     clear hK K
     try simp only [Act.put, tdy]
     refine wpAnyH_done (by kernel_rfl) ?_ _
     exact hfin
    ·go_simp
     refine HLA.out.mono ?_
     rintro e w4 ⟨rfl, hw⟩
     have hw := hw.symm
     subst hw
     refine hK.out _ _ hHeld (fun hHeld => ?_)
     clear hK K
     try simp only [Act.put, tdy]
     iterate 1
      refine tkn (v := ?_) 13 rfl ?_ ?_; rotate_left 1
      ·intro w hSw; go_simp; try with_reducible rfl
      try simp only [Act.put, tdy]
     refine tkn (v := .agg #[.int .i64 ln, .int .i64 (m : Int), .int .i64 (nc : Int), .string s, .map (some gk)]) 16 rfl ?_ ?_
     ·intro w hSw; exact exec135 _ _ w ln (m : Int) (nc : Int) s gk _ _ _ _ rfl rfl rfl rfl rfl
     try simp only [Act.put, tdy]
     refine wpAnyH_ready (rs := [4, 17]) (by kernel_rfl) (by simp) ?_
     refine AllReadyH.cons rfl (fun K hK => ?_) (AllReadyH.cons rfl (fun K hK => ?_) AllReadyH.nil)
     ·have l1 := l0
      go_simp
      refine hK.out _ _ hHeld (fun hHeld => ?_)
      clear hK K
      try simp only [Act.put, tdy]
      clear l1
      refine rdy 17 rfl (fun K hK => ?_)
      go_simp
      refine hK.out _ _ (hHeld.alloc _) (fun hHeld => ?_)
      clear hK K
      try simp only [Act.put, tdy]
      refine rdy 18 rfl (fun K hK => ?_)
      refine step_app rfl (.tmp 39) (.tmp 52) 91 91 rfl _ _ rfl rfl (.slice wa5 wm5 wc5) w5 HR5.out ?_
      refine hK.out _ _ HKS5.out (fun hHeld => ?_)
      clear hK K
      try simp only [Act.put, tdy]
      iterate 2
       refine tkn (v := ?_) 19 rfl ?_ ?_; rotate_left 1
       ·intro w hSw; go_simp; try with_reducible rfl
       try simp only [Act.put, tdy]
      obtain ⟨g1, gf1⟩ := HG1.out
      refine rdy 21 rfl (fun K hK => ?_)
      go_simp
      refine hK.out _ _ HKS6.out (fun hHeld => ?_)
      clear hK K
      try simp only [Act.put, tdy]
      refine wpAnyH_done (by kernel_rfl) ?_ _
      exact hfin
     ·go_simp
      refine hK.out _ _ (hHeld.alloc _) (fun hHeld => ?_)
      clear hK K
      try simp only [Act.put, tdy]
      refine rdy 4 rfl (fun K hK => ?_)
      have l1 : (wg.alloc (.cells #[.int .i64 ln, .int .i64 (m : Int), .int .i64 (nc : Int), .string s, .map (some gk)] 130)).cell? ⟨r, 6, none⟩ = some (.slice wa wn wc) := ((Kept.refl (fun _ => False) wg).alloc _).cell l0 id
      go_simp
      refine hK.out _ _ hHeld (fun hHeld => ?_)
      clear hK K
      try simp only [Act.put, tdy]
      clear l1
      refine rdy 18 rfl (fun K hK => ?_)
      refine step_app rfl (.tmp 39) (.tmp 52) 91 91 rfl _ _ rfl rfl (.slice wa5 wm5 wc5) w5 HR5.out ?_
      refine hK.out _ _ HKS5.out (fun hHeld => ?_)
      clear hK K
      try simp only [Act.put, tdy]
      iterate 2
       refine tkn (v := ?_) 19 rfl ?_ ?_; rotate_left 1
       ·intro w hSw; go_simp; try with_reducible rfl
       try simp only [Act.put, tdy]
      obtain ⟨g1, gf1⟩ := HG1.out
      refine rdy 21 rfl (fun K hK => ?_)
      go_simp
      refine hK.out _ _ HKS6.out (fun hHeld => ?_)
      clear hK K
      try simp only [Act.put, tdy]
      refine wpAnyH_done (by kernel_rfl) ?_ _
      exact hfin
   clear l0 HSM HKS5 HKS6 HG1 HR5 HLA hHeld HXg HBg HOg hwv
   generalize w5.setCell ⟨r, 6, none⟩ (.slice wa5 wm5 wc5) = wh at *
   have y1 := HY1.out
   clear HY1
   go_upto_region 7 with fail
   have hkf : Kept (fun _ => False) wh wh.drew := (Kept.refl _ _).drew
   have HXf := hid_of (HXt.out.same hkf)
   have HBf := hid_of (box_kept hkf HBt.out id)
   have HOf := hid_of (HOt.out.trans (Kept.othG hkf))
   have y1f := hkf.cell y1 id
   clear y1 HXt HBt HOt hkf
   refine wp_region_held_drew (S := fun w' => Kept (fun q => cv.ownBlock = some q ∨ q = fg) wh.drew w') (by kernel_rfl) (Kept.refl _ _) (fun hHeld => ?_)
   generalize wh.drew = wf at *
   obtain ⟨da, dm, dc, w5, hr5, hk5, ho5, g1, gf1, hx6, ho6, hfgl⟩ := HXf.out.pushC (gs := gs) (f := f) HFS.out HPT.out.1 HPT.out.2.2.1 fg mm fc HFV.out op ar (by have := HNCB.out; have := HNC.out; omega)
   rw [← HMM.out] at g1 gf1 hx6 ho6
   have HKS5 := hid_of (hk5.mono (T := fun q => cv.ownBlock = some q ∨ q = fg) (fun _ _ e => .inl e))
   have HKS6 := hid_of (HKS5.out.setCell (p := ⟨fg, m * 4 + 3, none⟩) (.inr (.inr rfl)) (.slice da dm dc))
   have HNX : Hid (¬ (cv.ownBlock = some gx ∨ gx = fg)) := fun e => by
    rcases e with e | e
    ·exact HCN.out e
    ·exact HGF.out (by rw [HFV.out, e]; rfl)
   have HSM : Hid (∀ w', Kept (fun q => cv.ownBlock = some q ∨ q = fg) wf w' → w'.cell? ⟨gx, 0, none⟩ = some (.int .i64 op) ∧ w'.cell? ⟨gx, 1, none⟩ = some (.int .i64 ar)) := fun w' hw =>
    ⟨hw.cell (cell_block _ _ 0 _ _ _ HBf.out) HNX.out, hw.cell (cell_block _ _ 1 _ _ _ HBf.out) HNX.out⟩
   have HG1 : Hid (w5.cell? ⟨fg, m * 4 + 3, none⟩ = some cv ∧ w5.frozen? ⟨fg, m * 4 + 3, none⟩ = false) := ⟨g1, gf1⟩
   have HFI : Hid (AddR w0 w r R' (.returned (.tuple #[])) (w5.setCell ⟨fg, m * 4 + 3, none⟩ (.slice da dm dc))) := by
    refine ⟨⟨_, rfl⟩, ?_, HOf.out.trans (ho5.trans ho6)⟩
    rw [HR'.out]
    have hws : R.ws ++ addW gs.length f ln op s = R.ws ++ [⟨ln, m, nc, s, true⟩] := by
     unfold addW
     rw [if_neg HSN.out, HMM.out, HNC.out]
     rw [decide_eq_false HJ.out]; rfl
    rw [hws]
    exact ⟨_, _, _, _, _, _, _, hx6⟩
   have HR5 := hid_of hr5
   rw [HCVE.out] at y1f HR5 HG1
   clear hr5 hk5 ho5 g1 gf1 hx6 ho6 hfgl HXf HBf HOf
   iterate 4
    refine tkn (v := ?_) 0 rfl ?_ ?_; rotate_left 1
    ·intro w hSw; go_simp; try with_reducible rfl
    try simp only [Act.put, tdy]
   iterate 1
    refine tkn (v := ?_) 5 rfl ?_ ?_; rotate_left 1
    ·intro w hSw; obtain ⟨s0, s1⟩ := HSM.out w hSw; go_simp; try with_reducible rfl
    try simp only [Act.put, tdy]
   refine wpAnyH_ready (rs := [4, 6]) (by kernel_rfl) (by simp) ?_
   refine AllReadyH.cons rfl (fun K hK => ?_) (AllReadyH.cons rfl (fun K hK => ?_) AllReadyH.nil)
   ·have l1 := y1f
    go_simp
    refine hK.out _ _ hHeld (fun hHeld => ?_)
    clear hK K
    try simp only [Act.put, tdy]
    clear l1
    refine rdy 6 rfl (fun K hK => ?_)
    go_simp
    refine hK.out _ _ (hHeld.alloc _) (fun hHeld => ?_)
    clear hK K
    try simp only [Act.put, tdy]
    refine rdy 7 rfl (fun K hK => ?_)
    refine step_app rfl (.tmp 60) (.tmp 62) 49 49 rfl _ _ rfl rfl (.slice da dm dc) w5 HR5.out ?_
    refine hK.out _ _ HKS5.out (fun hHeld => ?_)
    clear hK K
    try simp only [Act.put, tdy]
    iterate 2
     refine tkn (v := ?_) 8 rfl ?_ ?_; rotate_left 1
     ·intro w hSw; go_simp; try with_reducible rfl
     try simp only [Act.put, tdy]
    obtain ⟨g1, gf1⟩ := HG1.out
    refine rdy 10 rfl (fun K hK => ?_)
    go_simp
    refine hK.out _ _ HKS6.out (fun hHeld => ?_)
    clear hK K
    try simp only [Act.put, tdy]
    refine wpAnyH_done (by kernel_rfl) ?_ _
    go_wp2
    refine bodyPost_end (results_none rfl _ _ _) rfl ?_
    exact HFI.out
   ·go_simp
    refine hK.out _ _ (hHeld.alloc _) (fun hHeld => ?_)
    clear hK K
    try simp only [Act.put, tdy]
    have l1 : (wf.alloc (.cells #[.int .i64 op, .int .i64 ar] 48)).cell? ⟨fg, m * 4 + 3, none⟩ = some (.slice ca nc cc) := ((Kept.refl (fun _ => False) wf).alloc _).cell y1f id
    refine rdy 4 rfl (fun K hK => ?_)
    go_simp
    refine hK.out _ _ hHeld (fun hHeld => ?_)
    clear hK K
    try simp only [Act.put, tdy]
    clear l1
    refine rdy 7 rfl (fun K hK => ?_)
    refine step_app rfl (.tmp 60) (.tmp 62) 49 49 rfl _ _ rfl rfl (.slice da dm dc) w5 HR5.out ?_
    refine hK.out _ _ HKS5.out (fun hHeld => ?_)
    clear hK K
    try simp only [Act.put, tdy]
    iterate 2
     refine tkn (v := ?_) 8 rfl ?_ ?_; rotate_left 1
     ·intro w hSw; go_simp; try with_reducible rfl
     try simp only [Act.put, tdy]
    obtain ⟨g1, gf1⟩ := HG1.out
    refine rdy 10 rfl (fun K hK => ?_)
    go_simp
    refine hK.out _ _ HKS6.out (fun hHeld => ?_)
    clear hK K
    try simp only [Act.put, tdy]
    refine wpAnyH_done (by kernel_rfl) ?_ _
    go_wp2
    refine bodyPost_end (results_none rfl _ _ _) rfl ?_
    exact HFI.out
end Go.Proofs.YtpfmhibdmehlcaaGreatDoor

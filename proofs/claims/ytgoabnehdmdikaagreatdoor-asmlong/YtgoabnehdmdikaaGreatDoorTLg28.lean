import Derived.Test.YtgoabnehdmdikaaGreatDoorTLg27
set_option linter.unusedVariables false
set_option linter.unusedSimpArgs false
set_option maxRecDepth 100000
set_option maxHeartbeats 64000000
namespace Go.Proofs.YtgoabnehdmdikaaGreatDoor
open Go.RowKit
variable {w0 w : World} {r : Nat} {R : Rdr} {s : Shp} {CV LV PV : List Value} {dv fv nv lv pv wv : Value}
theorem Zkh {w w5 : World} {S : Nat → Prop} {g r i : Nat} {v : Value} {cs : Array Value} {t : TypeId} {f : Nat × Nat} (hk : Kept S w w5) (hn : ¬ S g) (hne : ¬ g = r) (hb : w.heap[g]? = some (.cells cs t f)) : (w5.setCell ⟨r, i, none⟩ v).heap[g]? = some (.cells cs t f) := Zc (Zg w5 r i v) (Zc hk hb hn) hne
theorem Zo3 (h : DrZ w0 w r (shR R CV LV PV dv fv nv lv pv wv)) (hl : R.fs.length ≤ 90000) (j0 j1 j2 op a ln : Int) (la : Option Addr) (ll lc : Nat) (nm dt wd : ByteArray) (hd : (lkA (nmL 0 R.fs) nm).isSome = true) :
  Calls Tryz.prog 22 #[.pointer (some ⟨r, 0, none⟩), .agg #[.int .i64 3, .slice la ll lc, .string nm, .int .i64 j0, .int .i64 j1, .int .i64 j2, .string dt, .int .i64 op, .int .i64 a, .string wd, .bool false], .int .i64 ln] w (Zdq w0 r (.bad 142)) := by
 obtain ⟨fa, fc, hfv⟩ := Zd h.fns
 have hfv : fv = .slice fa R.fs.length fc := hfv
 subst hfv
 have hka : Kept nF w (w.alloc (.cells #[.int .i64 3, .slice la ll lc, .string nm, .int .i64 j0, .int .i64 j1, .int .i64 j2, .string dt, .int .i64 op, .int .i64 a, .string wd, .bool false] 66)) := (Kept.refl _ _).alloc _
 have hba := heap_alloc_new w (.cells #[.int .i64 3, .slice la ll lc, .string nm, .int .i64 j0, .int .i64 j1, .int .i64 j2, .string dt, .int .i64 op, .int .i64 a, .string wd, .bool false] 66)
 have HD1 := Za (h.same hka)
 have HX1 := Za hba
 clear h hka hba
 go_enter Tryz.func22, Tryz.ntmps22
 go_upto_region 1 with fail
 generalize w.alloc (.cells #[.int .i64 3, .slice la ll lc, .string nm, .int .i64 j0, .int .i64 j1, .int .i64 j2, .string dt, .int .i64 op, .int .i64 a, .string wd, .bool false] 66) = w1 at *
 obtain ⟨gx, hgx⟩ := nmd (w.heap.size)
 rw [← hgx] at HX1 ⊢
 clear hgx
 obtain ⟨⟨b0, b1, b2, b3, b4, b5, b6, b7, b8, b9, b10⟩, bf7, bf8, bf9⟩ := Zq HX1.out
 have HFT : Hid (Calls Tryz.prog 43 #[.pointer (some ⟨r, 0, none⟩), .agg #[.int .i64 3, .slice la ll lc, .string nm, .int .i64 j0, .int .i64 j1, .int .i64 j2, .string dt, .int .i64 op, .int .i64 a, .string wd, .bool false]] w1 fun e w' => e = .returned (.bool true) ∧ Kept nF w1 w') := by
  have h9 := Zdz HD1.out hl ⟨3, .slice la ll lc, nm, j0, j1, j2, dt, op, a, wd, false⟩
  rw [show Xw R (⟨3, .slice la ll lc, nm, j0, j1, j2, dt, op, a, wd, false⟩ : SL).k = true from rfl] at h9
  exact h9
 go_wp2_with fail
 refine HFT.out.mono ?_
 rintro e w2 ⟨rfl, hk2⟩
 have HD2 := Za (HD1.out.same hk2)
 have HX2 := Za (Zc hk2 HX1.out id)
 clear hk2 HD1 HX1 HFT b0 b1 b2 b3 b4 b5 b6 b7 b8 b9 b10 bf7 bf8 bf9
 obtain ⟨⟨b0, b1, b2, b3, b4, b5, b6, b7, b8, b9, b10⟩, bf7, bf8, bf9⟩ := Zq HX2.out
 obtain ⟨n, hn⟩ := nmd (R.fs.length)
 have c2 : w2.cell? ⟨r, 2, none⟩ = some (.slice fa n fc) := by
  rw [hn]
  exact Zb _ _ 2 _ _ _ HD2.out.box
 have HNF := Za hn
 have hnb : (n : Int) ≤ 90000 := by omega
 clear hn
 obtain ⟨k, hk, hkn⟩ := Zio hd
 rw [Zf8] at hk
 have hkI : (0 : Int) ≤ (k : Int) := by omega
 clear hd hkn
 go_upto_region 13 with fail
 have hkd : Kept nF w2 w2.drew := (Kept.refl _ _).drew
 have HDd := Za (HD2.out.same hkd)
 have HXd := Za (Zc hkd HX2.out id)
 clear HD2 HX2 hkd c2 b0 b1 b2 b3 b4 b5 b6 b7 b8 b9 b10 bf7 bf8 bf9
 refine wp_region_held_drew (S := fun w' => w' = w2.drew) (by kernel_rfl) rfl (fun qh => ?_)
 generalize w2.drew = w3 at *
 have HHAS := Za (Zkd nv (R.fs.map Fnc.nm) nm w3 HDd.out.strs (by rw [List.length_map]; omega))
 rw [hk] at HHAS
 obtain ⟨na, nc, hnv⟩ := Zd HDd.out.names
 have hnv : nv = .slice na R.fs.length nc := hnv
 rw [← HNF.out] at hnv
 subst hnv
 have l4 : w3.cell? ⟨r, 4, none⟩ = some (.slice na n nc) := Zb _ _ 4 _ _ _ HDd.out.box
 have x2 := Zb _ _ 2 _ _ _ HXd.out
 clear hk
 iterate 3
  refine tkn (v := ?_) 0 rfl ?_ ?_; rotate_left
  ·intro w hSw; go_simp; try with_reducible rfl
  try simp only [Act.put, tdy]
 iterate 1
  refine tkn (v := ?_) 4 rfl ?_ ?_; rotate_left
  ·intro w hSw; go_simp; try with_reducible rfl
  try simp only [Act.put, tdy]
 iterate 1
  refine tkn (v := ?_) 5 rfl ?_ ?_; rotate_left
  ·intro w hSw; have hSw := hSw.symm; subst hSw; go_simp; try with_reducible rfl
  try simp only [Act.put, tdy]
 refine rdy 3 rfl (fun K hK => ?_)
 go_simp
 refine hK.out _ _ qh (fun qh => ?_)
 clear hK K
 try simp only [Act.put, tdy]
 refine rdy 6 rfl (fun K hK => ?_)
 go_simp
 refine HHAS.out.mono ?_
 rintro e w4 ⟨rfl, hw⟩
 have hw := hw.symm
 subst hw
 refine hK.out _ _ qh (fun qh => ?_)
 clear hK K
 try simp only [Act.put, tdy]
 iterate 1
  refine tkn (v := ?_) 7 rfl ?_ ?_; rotate_left
  ·intro w hSw; go_simp; try with_reducible rfl
  try simp only [Act.put, tdy]
 refine wpAnyH_done (by kernel_rfl) ?_ _
 go_wp2
 go_ret
 exact ⟨HDd.out.kept, .inr ⟨_, by decide, rfl, rfl⟩⟩
theorem Zo4 (h : DrZ w0 w r (shR R CV LV PV dv fv nv lv pv wv)) (hl : R.fs.length ≤ 90000) (j0 j1 j2 op a ln : Int) (la : Option Addr) (ll lc : Nat) (nm dt wd : ByteArray) (hd : ¬ (lkA (nmL 0 R.fs) nm).isSome = true) :
  Calls Tryz.prog 22 #[.pointer (some ⟨r, 0, none⟩), .agg #[.int .i64 3, .slice la ll lc, .string nm, .int .i64 j0, .int .i64 j1, .int .i64 j2, .string dt, .int .i64 op, .int .i64 a, .string wd, .bool false], .int .i64 ln] w (Zdq w0 r (.good ⟨R.mem, R.sized, R.data, R.fs ++ [⟨nm, j0, j1, j2, [], []⟩], R.ws⟩)) := by
 obtain ⟨fa, fc, hfv⟩ := Zd h.fns
 have hfv : fv = .slice fa R.fs.length fc := hfv
 subst hfv
 have hka : Kept nF w (w.alloc (.cells #[.int .i64 3, .slice la ll lc, .string nm, .int .i64 j0, .int .i64 j1, .int .i64 j2, .string dt, .int .i64 op, .int .i64 a, .string wd, .bool false] 66)) := (Kept.refl _ _).alloc _
 have hba := heap_alloc_new w (.cells #[.int .i64 3, .slice la ll lc, .string nm, .int .i64 j0, .int .i64 j1, .int .i64 j2, .string dt, .int .i64 op, .int .i64 a, .string wd, .bool false] 66)
 have HD1 := Za (h.same hka)
 have HX1 := Za hba
 clear h hka hba
 go_enter Tryz.func22, Tryz.ntmps22
 go_upto_region 1 with fail
 generalize w.alloc (.cells #[.int .i64 3, .slice la ll lc, .string nm, .int .i64 j0, .int .i64 j1, .int .i64 j2, .string dt, .int .i64 op, .int .i64 a, .string wd, .bool false] 66) = w1 at *
 obtain ⟨gx, hgx⟩ := nmd (w.heap.size)
 rw [← hgx] at HX1 ⊢
 clear hgx
 obtain ⟨⟨b0, b1, b2, b3, b4, b5, b6, b7, b8, b9, b10⟩, bf7, bf8, bf9⟩ := Zq HX1.out
 have HFT : Hid (Calls Tryz.prog 43 #[.pointer (some ⟨r, 0, none⟩), .agg #[.int .i64 3, .slice la ll lc, .string nm, .int .i64 j0, .int .i64 j1, .int .i64 j2, .string dt, .int .i64 op, .int .i64 a, .string wd, .bool false]] w1 fun e w' => e = .returned (.bool true) ∧ Kept nF w1 w') := by
  have h9 := Zdz HD1.out hl ⟨3, .slice la ll lc, nm, j0, j1, j2, dt, op, a, wd, false⟩
  rw [show Xw R (⟨3, .slice la ll lc, nm, j0, j1, j2, dt, op, a, wd, false⟩ : SL).k = true from rfl] at h9
  exact h9
 go_wp2_with fail
 refine HFT.out.mono ?_
 rintro e w2 ⟨rfl, hk2⟩
 have HD2 := Za (HD1.out.same hk2)
 have HX2 := Za (Zc hk2 HX1.out id)
 clear hk2 HD1 HX1 HFT b0 b1 b2 b3 b4 b5 b6 b7 b8 b9 b10 bf7 bf8 bf9
 obtain ⟨⟨b0, b1, b2, b3, b4, b5, b6, b7, b8, b9, b10⟩, bf7, bf8, bf9⟩ := Zq HX2.out
 obtain ⟨n, hn⟩ := nmd (R.fs.length)
 have c2 : w2.cell? ⟨r, 2, none⟩ = some (.slice fa n fc) := by
  rw [hn]
  exact Zb _ _ 2 _ _ _ HD2.out.box
 have HNF := Za hn
 have hnb : (n : Int) ≤ 90000 := by omega
 clear hn
 have hk := Zmd hd
 rw [Zf8] at hk
 clear hd
 have HCL : Hid (CV.length = R.fs.length ∧ LV.length = R.fs.length ∧ PV.length = R.fs.length) := ⟨HD2.out.clen, HD2.out.llen, HD2.out.plen⟩
 go_upto_region 13 with fail
 have hkd : Kept nF w2 w2.drew := (Kept.refl _ _).drew
 have HDd := Za (HD2.out.same hkd)
 have HXd := Za (Zc hkd HX2.out id)
 clear HD2 HX2 hkd c2 b0 b1 b2 b3 b4 b5 b6 b7 b8 b9 b10 bf7 bf8 bf9
 refine wp_region_held_drew (S := fun w' => w' = w2.drew) (by kernel_rfl) rfl (fun qh => ?_)
 generalize w2.drew = w3 at *
 have HHAS := Za (Zkd nv (R.fs.map Fnc.nm) nm w3 HDd.out.strs (by rw [List.length_map]; omega))
 rw [hk] at HHAS
 obtain ⟨na, nc, hnv⟩ := Zd HDd.out.names
 have hnv : nv = .slice na R.fs.length nc := hnv
 rw [← HNF.out] at hnv
 subst hnv
 have l4 : w3.cell? ⟨r, 4, none⟩ = some (.slice na n nc) := Zb _ _ 4 _ _ _ HDd.out.box
 have x2 := Zb _ _ 2 _ _ _ HXd.out
 clear hk
 iterate 3
  refine tkn (v := ?_) 0 rfl ?_ ?_; rotate_left
  ·intro w hSw; go_simp; try with_reducible rfl
  try simp only [Act.put, tdy]
 iterate 1
  refine tkn (v := ?_) 4 rfl ?_ ?_; rotate_left
  ·intro w hSw; go_simp; try with_reducible rfl
  try simp only [Act.put, tdy]
 iterate 1
  refine tkn (v := ?_) 5 rfl ?_ ?_; rotate_left
  ·intro w hSw; have hSw := hSw.symm; subst hSw; go_simp; try with_reducible rfl
  try simp only [Act.put, tdy]
 refine rdy 3 rfl (fun K hK => ?_)
 go_simp
 refine hK.out _ _ qh (fun qh => ?_)
 clear hK K
 try simp only [Act.put, tdy]
 refine rdy 6 rfl (fun K hK => ?_)
 go_simp
 refine HHAS.out.mono ?_
 rintro e w4 ⟨rfl, hw⟩
 have hw := hw.symm
 subst hw
 refine hK.out _ _ qh (fun qh => ?_)
 clear hK K
 try simp only [Act.put, tdy]
 iterate 1
  refine tkn (v := ?_) 7 rfl ?_ ?_; rotate_left
  ·intro w hSw; go_simp; try with_reducible rfl
  try simp only [Act.put, tdy]
 refine wpAnyH_done (by kernel_rfl) ?_ _
 clear l4 x2 HHAS qh
 go_upto_region 15 with fail
 have hkd : Kept nF w3 w3.drew := (Kept.refl _ _).drew
 have HDe := Za (HDd.out.same hkd)
 have HXe := Za (Zc hkd HXd.out id)
 clear HDd HXd hkd
 refine wp_region_held_drew (S := fun w' => Kept (fun q => (Value.slice na n nc).ownBlock = some q ∨ q = r) w3.drew w') (by kernel_rfl) (Kept.refl _ _) (fun qh => ?_)
 generalize w3.drew = w5 at *
 have HNE : Hid (¬ gx = r) := Xi HXe.out HDe.out.box (by decide)
 have hng : (Value.slice na n nc).ownBlock ≠ some gx := fun e => Zs HDe.out.names HXe.out (by decide) e
 have HSM : Hid (∀ w', Kept (fun q => (Value.slice na n nc).ownBlock = some q ∨ q = r) w5 w' → w'.cell? ⟨gx, 2, none⟩ = some (.string nm)) := fun w' hw => hw.cell (Zb _ _ 2 _ _ _ HXe.out) (fun e => e.elim hng HNE.out)
 have l0 : w5.cell? ⟨r, 4, none⟩ = some (.slice na n nc) := Zb _ _ 4 _ _ _ HDe.out.box
 obtain ⟨a5, m5, c5, w6, hr, hk5, hb5, hz5⟩ := HDe.out.pushN nm (by show R.fs.length ≤ _; omega)
 have HR : Hid ((Builtin.append_ #[37, 37] 37 #[.slice na n nc, .slice (some ⟨w5.heap.size, 0, none⟩) 1 1]).run Tryz.prog (w5.alloc (.cells #[.string nm] 9)) = .ok (.slice a5 m5 c5) w6) := hr
 have HK5 := Za (hk5.mono (T := fun q => (Value.slice na n nc).ownBlock = some q ∨ q = r) (fun _ _ e => .inl e))
 have HK6 := Za (HK5.out.setCell (p := ⟨r, 4, none⟩) (.inr (.inr rfl)) (.slice a5 m5 c5))
 have HDd := Za hz5
 have HXd := Za (Zkh (r := r) (i := 4) (v := .slice a5 m5 c5) hk5 hng HNE.out HXe.out)
 have q1 : w6.cell? ⟨r, 4, none⟩ = some (.slice na n nc) := Zb _ _ 4 _ _ _ hb5
 have f1 := Ze _ _ 4 _ _ hb5
 clear hr hk5 hb5 hz5 hng HDe HXe
 iterate 4
  refine tkn (v := ?_) 0 rfl ?_ ?_; rotate_left
  ·intro w hSw; go_simp; try with_reducible rfl
  try simp only [Act.put, tdy]
 iterate 1
  refine tkn (v := ?_) 5 rfl ?_ ?_; rotate_left
  ·intro w hSw; go_simp; try with_reducible rfl
  try simp only [Act.put, tdy]
 iterate 1
  refine tkn (v := ?_) 6 rfl ?_ ?_; rotate_left
  ·intro w hSw; have s1 := HSM.out w hSw; go_simp; try with_reducible rfl
  try simp only [Act.put, tdy]
 refine (fun (hfin1 : ?G1) => ?main1) ?fin1
 case main1 =>
  refine wpAnyH_ready (rs := [4, 7]) (by kernel_rfl) (by simp) ?_
  refine AllReadyH.cons rfl (fun K hK => ?_) (AllReadyH.cons rfl (fun K hK => ?_) AllReadyH.nil)
  ·have l1 := l0
   go_simp
   refine hK.out _ _ qh (fun qh => ?_)
   clear hK K
   try simp only [Act.put, tdy]
   clear l1
   refine rdy 7 rfl (fun K hK => ?_)
   go_simp
   refine hK.out _ _ (qh.alloc _) (fun qh => ?_)
   clear hK K
   try simp only [Act.put, tdy]
   refine rdy 8 rfl (fun K hK => ?_)
   refine Zm rfl (.tmp 64) (.tmp 67) 37 37 rfl _ _ rfl rfl (.slice a5 m5 c5) w6 HR.out ?_
   refine hK.out _ _ HK5.out (fun qh => ?_)
   clear hK K
   try simp only [Act.put, tdy]
   iterate 2
    refine tkn (v := ?_) 9 rfl ?_ ?_; rotate_left
    ·intro w hSw; go_simp; try with_reducible rfl
    try simp only [Act.put, tdy]
   refine rdy 11 rfl (fun K hK => ?_)
   go_simp
   refine hK.out _ _ HK6.out (fun qh => ?_)
   clear hK K
   try simp only [Act.put, tdy]
   refine wpAnyH_done (by kernel_rfl) ?_ _
   exact hfin1
  ·go_simp
   refine hK.out _ _ (qh.alloc _) (fun qh => ?_)
   clear hK K
   try simp only [Act.put, tdy]
   have l1 : (w5.alloc (.cells #[.string nm] 9)).cell? ⟨r, 4, none⟩ = some (.slice na n nc) := ((Kept.refl nF w5).alloc _).cell l0 id
   refine rdy 4 rfl (fun K hK => ?_)
   go_simp
   refine hK.out _ _ qh (fun qh => ?_)
   clear hK K
   try simp only [Act.put, tdy]
   clear l1
   refine rdy 8 rfl (fun K hK => ?_)
   refine Zm rfl (.tmp 64) (.tmp 67) 37 37 rfl _ _ rfl rfl (.slice a5 m5 c5) w6 HR.out ?_
   refine hK.out _ _ HK5.out (fun qh => ?_)
   clear hK K
   try simp only [Act.put, tdy]
   iterate 2
    refine tkn (v := ?_) 9 rfl ?_ ?_; rotate_left
    ·intro w hSw; go_simp; try with_reducible rfl
    try simp only [Act.put, tdy]
   refine rdy 11 rfl (fun K hK => ?_)
   go_simp
   refine hK.out _ _ HK6.out (fun qh => ?_)
   clear hK K
   try simp only [Act.put, tdy]
   refine wpAnyH_done (by kernel_rfl) ?_ _
   exact hfin1
 clear l0 q1 f1 HSM HR HK5 HK6 qh
 generalize w6.setCell ⟨r, 4, none⟩ (.slice a5 m5 c5) = w7 at *
 go_upto_region 16 with fail
 have hkd : Kept nF w7 w7.drew := (Kept.refl _ _).drew
 have HDe := Za (HDd.out.same hkd)
 have HXe := Za (Zc hkd HXd.out id)
 clear HDd HXd hkd
 refine wp_region_held_drew (S := fun w' => Kept (fun q => (Value.slice fa n fc).ownBlock = some q ∨ q = r) w7.drew w') (by kernel_rfl) (Kept.refl _ _) (fun qh => ?_)
 generalize w7.drew = w8 at *
 have hng : (Value.slice fa n fc).ownBlock ≠ some gx := by
  rw [HNF.out]
  exact fun e => Zs HDe.out.fns HXe.out (by decide) e
 have HSM : Hid (∀ w', Kept (fun q => (Value.slice fa n fc).ownBlock = some q ∨ q = r) w8 w' → w'.cell? ⟨gx, 3, none⟩ = some (.int .i64 j0) ∧ w'.cell? ⟨gx, 4, none⟩ = some (.int .i64 j1) ∧ w'.cell? ⟨gx, 5, none⟩ = some (.int .i64 j2)) := fun w' hw => ⟨hw.cell (Zb _ _ 3 _ _ _ HXe.out) (fun e => e.elim hng HNE.out), hw.cell (Zb _ _ 4 _ _ _ HXe.out) (fun e => e.elim hng HNE.out), hw.cell (Zb _ _ 5 _ _ _ HXe.out) (fun e => e.elim hng HNE.out)⟩
 have l0 : w8.cell? ⟨r, 2, none⟩ = some (.slice fa n fc) := by
  rw [HNF.out]
  exact Zb _ _ 2 _ _ _ HDe.out.box
 obtain ⟨a6, m6, c6, w9, hr, hk5, hb5, hz5⟩ := HDe.out.pushF j0 j1 j2 (by show R.fs.length ≤ _; omega)
 have HR : Hid ((Builtin.append_ #[24, 24] 24 #[.slice fa n fc, .slice (some ⟨w8.heap.size, 0, none⟩) 1 1]).run Tryz.prog (w8.alloc (.cells #[.int .i64 j0, .int .i64 j1, .int .i64 j2, .slice none 0 0] 78)) = .ok (.slice a6 m6 c6) w9) := by
  show _ = _
  rw [HNF.out]
  exact hr
 have HK5 : Hid (Kept (fun q => (Value.slice fa n fc).ownBlock = some q ∨ q = r) w8 w9) := by
  show Kept _ _ _
  rw [HNF.out]
  exact hk5.mono (fun _ _ e => .inl e)
 have HK6 := Za (HK5.out.setCell (p := ⟨r, 2, none⟩) (.inr (.inr rfl)) (.slice a6 m6 c6))
 have HDd := Za hz5
 have HXd := Za (Zkh (r := r) (i := 2) (v := .slice a6 m6 c6) hk5 (by
  have h9 := hng
  rw [HNF.out] at h9
  exact h9) HNE.out HXe.out)
 have q1 : w9.cell? ⟨r, 2, none⟩ = some (.slice fa n fc) := by
  rw [HNF.out]
  exact Zb _ _ 2 _ _ _ hb5
 have f1 := Ze _ _ 2 _ _ hb5
 clear hr hk5 hb5 hz5 hng HDe HXe
 iterate 5
  refine tkn (v := ?_) 0 rfl ?_ ?_; rotate_left
  ·intro w hSw; go_simp; try with_reducible rfl
  try simp only [Act.put, tdy]
 iterate 9
  refine tkn (v := ?_) 6 rfl ?_ ?_; rotate_left
  ·intro w hSw; obtain ⟨s1, s2, s3⟩ := HSM.out w hSw; go_simp; try with_reducible rfl
  try simp only [Act.put, tdy]
 iterate 1
  refine tkn (v := ?_) 15 rfl ?_ ?_; rotate_left
  ·intro w hSw; go_simp; try with_reducible rfl
  try simp only [Act.put, tdy]
 refine (fun (hfin2 : ?G2) => ?main2) ?fin2
 case main2 =>
  refine wpAnyH_ready (rs := [5, 16]) (by kernel_rfl) (by simp) ?_
  refine AllReadyH.cons rfl (fun K hK => ?_) (AllReadyH.cons rfl (fun K hK => ?_) AllReadyH.nil)
  ·have l1 := l0
   go_simp
   refine hK.out _ _ qh (fun qh => ?_)
   clear hK K
   try simp only [Act.put, tdy]
   clear l1
   refine rdy 16 rfl (fun K hK => ?_)
   go_simp
   refine hK.out _ _ (qh.alloc _) (fun qh => ?_)
   clear hK K
   try simp only [Act.put, tdy]
   refine rdy 17 rfl (fun K hK => ?_)
   refine Zm rfl (.tmp 76) (.tmp 87) 24 24 rfl _ _ rfl rfl (.slice a6 m6 c6) w9 HR.out ?_
   refine hK.out _ _ HK5.out (fun qh => ?_)
   clear hK K
   try simp only [Act.put, tdy]
   iterate 3
    refine tkn (v := ?_) 18 rfl ?_ ?_; rotate_left
    ·intro w hSw; go_simp; try with_reducible rfl
    try simp only [Act.put, tdy]
   refine rdy 21 rfl (fun K hK => ?_)
   go_simp
   refine hK.out _ _ HK6.out (fun qh => ?_)
   clear hK K
   try simp only [Act.put, tdy]
   refine wpAnyH_done (by kernel_rfl) ?_ _
   exact hfin2
  ·go_simp
   refine hK.out _ _ (qh.alloc _) (fun qh => ?_)
   clear hK K
   try simp only [Act.put, tdy]
   have l1 : (w8.alloc (.cells #[.int .i64 j0, .int .i64 j1, .int .i64 j2, .slice none 0 0] 78)).cell? ⟨r, 2, none⟩ = some (.slice fa n fc) := ((Kept.refl nF w8).alloc _).cell l0 id
   refine rdy 5 rfl (fun K hK => ?_)
   go_simp
   refine hK.out _ _ qh (fun qh => ?_)
   clear hK K
   try simp only [Act.put, tdy]
   clear l1
   refine rdy 17 rfl (fun K hK => ?_)
   refine Zm rfl (.tmp 76) (.tmp 87) 24 24 rfl _ _ rfl rfl (.slice a6 m6 c6) w9 HR.out ?_
   refine hK.out _ _ HK5.out (fun qh => ?_)
   clear hK K
   try simp only [Act.put, tdy]
   iterate 3
    refine tkn (v := ?_) 18 rfl ?_ ?_; rotate_left
    ·intro w hSw; go_simp; try with_reducible rfl
    try simp only [Act.put, tdy]
   refine rdy 21 rfl (fun K hK => ?_)
   go_simp
   refine hK.out _ _ HK6.out (fun qh => ?_)
   clear hK K
   try simp only [Act.put, tdy]
   refine wpAnyH_done (by kernel_rfl) ?_ _
   exact hfin2
 clear l0 q1 f1 HSM HR HK5 HK6 qh HXd
 generalize w9.setCell ⟨r, 2, none⟩ (.slice a6 m6 c6) = w10 at *
 obtain ⟨a7, m7, c7, w11, hr7, hk7, hb7, hz7⟩ := HDd.out.pushL (by show LV.length ≤ _; have := HCL.out.2.1; omega)
 obtain ⟨la', lc', hlv⟩ := Zd HDd.out.labs
 have hlv : lv = .slice la' LV.length lc' := hlv
 obtain ⟨nl, hnl⟩ := nmd (LV.length)
 rw [← hnl] at hlv
 subst hlv
 have q0 : w10.cell? ⟨r, 5, none⟩ = some (.slice la' nl lc') := Zb _ _ 5 _ _ _ HDd.out.box
 have z1 : w11.cell? ⟨r, 5, none⟩ = some (.slice la' nl lc') := Zb _ _ 5 _ _ _ hb7
 have z2 := Ze _ _ 5 _ _ hb7
 have HR7 : Hid ((Builtin.append_ #[59, 59] 59 #[.slice la' nl lc', .slice (some ⟨w10.heap.size, 0, none⟩) 1 1]).run Tryz.prog (w10.alloc (.cells #[.slice none 0 0] 37)) = .ok (.slice a7 m7 c7) w11) := hr7
 clear HDd
 have HDd := Za hz7
 clear hr7 hk7 hb7 hz7 hnl
 go_upto_region 18 with (at_builtin; refine Zr rfl (.tmp 96) (.tmp 97) 59 59 rfl _ _ rfl rfl _ w11 HR7.out ?_)
 clear q0 z1 z2 HR7
 generalize w11.setCell ⟨r, 5, none⟩ (.slice a7 m7 c7) = w12 at *
 obtain ⟨a8, m8, c8, w13, hr7, hk7, hb7, hz7⟩ := HDd.out.pushP (by show PV.length ≤ _; have := HCL.out.2.2; omega)
 obtain ⟨pa', pc', hpv⟩ := Zd HDd.out.plcs
 have hpv : pv = .slice pa' PV.length pc' := hpv
 obtain ⟨np, hnp⟩ := nmd (PV.length)
 rw [← hnp] at hpv
 subst hpv
 have q0 : w12.cell? ⟨r, 6, none⟩ = some (.slice pa' np pc') := Zb _ _ 6 _ _ _ HDd.out.box
 have z1 : w13.cell? ⟨r, 6, none⟩ = some (.slice pa' np pc') := Zb _ _ 6 _ _ _ hb7
 have z2 := Ze _ _ 6 _ _ hb7
 have HR7 : Hid ((Builtin.append_ #[60, 60] 60 #[.slice pa' np pc', .slice (some ⟨w12.heap.size, 0, none⟩) 1 1]).run Tryz.prog (w12.alloc (.cells #[.slice none 0 0] 73)) = .ok (.slice a8 m8 c8) w13) := hr7
 have HFIN : Hid (DrG w0 (w13.setCell ⟨r, 6, none⟩ (.slice a8 m8 c8)) r ⟨R.mem, R.sized, R.data, R.fs ++ [⟨nm, j0, j1, j2, [], []⟩], R.ws⟩) := by
  refine ⟨CV ++ [.slice none 0 0], LV ++ [.slice none 0 0], PV ++ [.slice none 0 0], dv, .slice a6 m6 c6, .slice a5 m5 c5, .slice a7 m7 c7, .slice a8 m8 c8, wv, ?_⟩
  rw [← Zv5 R CV LV PV dv (.slice fa R.fs.length fc) (.slice na n nc) (.slice la' nl lc') (.slice pa' np pc') wv nm j0 j1 j2 (.slice a6 m6 c6) (.slice a5 m5 c5) (.slice a7 m7 c7) (.slice a8 m8 c8) HCL.out.1]
  exact hz7
 have HKF := Za hz7.kept
 clear hr7 hk7 hb7 hz7 hnp HDd
 go_wp2_with (at_builtin; refine Zr rfl (.tmp 105) (.tmp 106) 60 60 rfl _ _ rfl rfl _ w13 HR7.out ?_)
 go_ret
 exact ⟨HKF.out, .inl ⟨_, rfl, rfl, HFIN.out⟩⟩
end Go.Proofs.YtgoabnehdmdikaaGreatDoor
namespace Go.Proofs.YtgoabnehdmdikaaGreatDoor
open Go.RowKit
variable {w0 w : World} {r : Nat} {R : Rdr} {s : Shp} {CV LV PV : List Value} {dv fv nv lv pv wv : Value}
theorem DrZ.lab (h : DrZ w0 w r s) {L0 : List Value} {v : Value} {X0 : List (Nat × List Value)} {k : Nat} {xs : List Value} (hL : s.LV = L0 ++ [v]) (hX : s.lx = X0 ++ [(k, xs)]) (hLX : L0.length = X0.length) (x : ByteArray) (hk : k ≤ 90000) (lg ln lc : Nat) (hlv : s.lv = .slice (some ⟨lg, 0, none⟩) ln lc) :
  ∃ a m c w5, (Builtin.append_ #[37, 37] 37 #[v, .slice (some ⟨w.heap.size, 0, none⟩) 1 1]).run Tryz.prog (w.alloc (.cells #[.string x] 9)) = .ok (.slice a m c) w5 ∧ Kept (fun q => v.ownBlock = some q) w w5 ∧ Xx w v (.slice a m c) ∧
   w5.cell? ⟨lg, L0.length, none⟩ = some v ∧ w5.frozen? ⟨lg, L0.length, none⟩ = false ∧
   DrZ w0 (w5.setCell ⟨lg, L0.length, none⟩ (.slice a m c)) r { s with LV := L0 ++ [.slice a m c], lx := X0 ++ [(k + 1, xs ++ [.string x])] } ∧ w0.heap.size ≤ lg := by
 have hvi : s.LV[L0.length]? = some v := by rw [hL]; exact Zl _ _
 have hxi : s.lx[L0.length]? = some (k, xs) := by rw [hX, hLX]; exact Zl _ _
 have hco : w.ownsRow w0.heap.size 9 1 v k xs := h.words.row (L0.length + 1) v (k, xs) (by simpa using hvi) (by simpa using hxi)
 obtain ⟨v', w5, hr, ho, hk0, hk1, hnb⟩ := Zc1 hco (.string x) rfl h.kept (by omega)
 obtain ⟨a, c, hv⟩ := Zd ho
 have hch := Yz hco
 have hF5 := Zi hk1 hch h.labs (by decide)
 have hln : ln = s.LV.length := by
  rw [hlv] at hF5
  rcases hF5.2 with ⟨e, _⟩ | ⟨g, cap, cur, e, _⟩
  ·cases e
  ·cases e; rfl
 rw [hlv, ← hln] at hF5
 have hln2 : ln = (L0 ++ [v']).length := by rw [hln, hL]; simp
 have hfg := hF5.lt lg rfl
 have hcell : w5.cell? ⟨lg, L0.length, none⟩ = some v := by
  have := hF5.cells (g := lg) rfl L0.length v hvi
  rw [Addr.add_lit, Nat.zero_add] at this
  exact this
 have hs := Zg w5 lg L0.length v'
 have hcb : Ch w5 (fun q => q = lg) 37 := fun q hq => by
  subst hq
  exact Yz hF5 _ rfl
 have hRow : (w5.setCell ⟨lg, L0.length, none⟩ v').ownsRow w0.heap.size 37 1 s.lv (L0 ++ [v']).length (L0 ++ [v']) := by
  have := (hF5.stored L0.length v').1
  rw [hL, Za7] at this
  rw [hlv, ← hln2]
  exact this
 have hCod := h.words.set (k := L0.length + 1) (by simpa using hvi) hk1 v' (k + 1, xs ++ [.string x]) ho (Zdr hnb)
 rw [List.set_cons_succ, List.set_cons_succ, hL, Za7, hX, hLX, Za7] at hCod
 have hb5 := Zah hk1 hch h.box (by decide)
 have hy : DrY w0 (w5.setCell ⟨lg, L0.length, none⟩ v') { s with LV := L0 ++ [v'], lx := X0 ++ [(k + 1, xs ++ [.string x])] } :=
  ⟨Zi hs hcb (Zi hk1 hch h.data (by decide)) (by decide), Zi hs hcb (Zi hk1 hch h.fns (by decide)) (by decide), (h.code.ch hk1 hch (by decide)).ch hs hcb (by decide), hCod.ch hs hcb (by decide), hRow, Zi hs hcb (Zi hk1 hch h.plcs (by decide)) (by decide), (h.plc.ch hk1 hch (by decide)).ch hs hcb (by decide), Zi hs hcb (Zi hk1 hch h.wts (by decide)) (by decide)⟩
 have hfr : w5.frozen? ⟨lg, L0.length, none⟩ = false := hF5.frozenAt _
 subst hv
 exact ⟨_, _, _, w5, hr, hk1, hnb, hcell, hfr, ⟨hy, Zah hs hcb hb5 (by decide), hk0.setCell (.inl hfg.1) _, h.lo⟩, hfg.1⟩
theorem DrZ.place (h : DrZ w0 w r s) {L0 : List Value} {v : Value} {X0 : List (Nat × List Value)} {k : Nat} {xs : List Value} (hL : s.PV = L0 ++ [v]) (hX : s.px = X0 ++ [(k, xs)]) (hLX : L0.length = X0.length) (x : Int) (hk : k ≤ 90000) (lg ln lc : Nat) (hlv : s.pv = .slice (some ⟨lg, 0, none⟩) ln lc) :
  ∃ a m c w5, (Builtin.append_ #[73, 73] 73 #[v, .slice (some ⟨w.heap.size, 0, none⟩) 1 1]).run Tryz.prog (w.alloc (.cells #[.int .i64 x] 3)) = .ok (.slice a m c) w5 ∧ Kept (fun q => v.ownBlock = some q) w w5 ∧ Xx w v (.slice a m c) ∧
   w5.cell? ⟨lg, L0.length, none⟩ = some v ∧ w5.frozen? ⟨lg, L0.length, none⟩ = false ∧
   DrZ w0 (w5.setCell ⟨lg, L0.length, none⟩ (.slice a m c)) r { s with PV := L0 ++ [.slice a m c], px := X0 ++ [(k + 1, xs ++ [.int .i64 x])] } ∧ w0.heap.size ≤ lg := by
 have hvi : s.PV[L0.length]? = some v := by rw [hL]; exact Zl _ _
 have hxi : s.px[L0.length]? = some (k, xs) := by rw [hX, hLX]; exact Zl _ _
 have hco : w.ownsRow w0.heap.size 3 1 v k xs := h.plc.row L0.length v (k, xs) hvi hxi
 obtain ⟨v', w5, hr, ho, hk0, hk1, hnb⟩ := Zuk hco (.int .i64 x) rfl h.kept (by omega)
 obtain ⟨a, c, hv⟩ := Zd ho
 have hch := Yz hco
 have hF5 := Zi hk1 hch h.plcs (by decide)
 have hln : ln = s.PV.length := by
  rw [hlv] at hF5
  rcases hF5.2 with ⟨e, _⟩ | ⟨g, cap, cur, e, _⟩
  ·cases e
  ·cases e; rfl
 rw [hlv, ← hln] at hF5
 have hln2 : ln = (L0 ++ [v']).length := by rw [hln, hL]; simp
 have hfg := hF5.lt lg rfl
 have hcell : w5.cell? ⟨lg, L0.length, none⟩ = some v := by
  have := hF5.cells (g := lg) rfl L0.length v hvi
  rw [Addr.add_lit, Nat.zero_add] at this
  exact this
 have hs := Zg w5 lg L0.length v'
 have hcb : Ch w5 (fun q => q = lg) 73 := fun q hq => by
  subst hq
  exact Yz hF5 _ rfl
 have hRow : (w5.setCell ⟨lg, L0.length, none⟩ v').ownsRow w0.heap.size 73 1 s.pv (L0 ++ [v']).length (L0 ++ [v']) := by
  have := (hF5.stored L0.length v').1
  rw [hL, Za7] at this
  rw [hlv, ← hln2]
  exact this
 have hCod := h.plc.set (k := L0.length) hvi hk1 v' (k + 1, xs ++ [.int .i64 x]) ho (Zdr hnb)
 rw [hL, Za7, hX, hLX, Za7] at hCod
 have hb5 := Zah hk1 hch h.box (by decide)
 have hy : DrY w0 (w5.setCell ⟨lg, L0.length, none⟩ v') { s with PV := L0 ++ [v'], px := X0 ++ [(k + 1, xs ++ [.int .i64 x])] } :=
  ⟨Zi hs hcb (Zi hk1 hch h.data (by decide)) (by decide), Zi hs hcb (Zi hk1 hch h.fns (by decide)) (by decide), (h.code.ch hk1 hch (by decide)).ch hs hcb (by decide), (h.words.ch hk1 hch (by decide)).ch hs hcb (by decide), Zi hs hcb (Zi hk1 hch h.labs (by decide)) (by decide), hRow, hCod.ch hs hcb (by decide), Zi hs hcb (Zi hk1 hch h.wts (by decide)) (by decide)⟩
 have hfr : w5.frozen? ⟨lg, L0.length, none⟩ = false := hF5.frozenAt _
 subst hv
 exact ⟨_, _, _, w5, hr, hk1, hnb, hcell, hfr, ⟨hy, Zah hs hcb hb5 (by decide), hk0.setCell (.inl hfg.1) _, h.lo⟩, hfg.1⟩
theorem DrZ.cod (h : DrZ w0 w r s) {L0 : List Value} {v : Value} {X0 : List (Nat × List Value)} {k : Nat} {xs : List Value} (hL : s.CV = L0 ++ [v]) (hX : s.cx = X0 ++ [(k, xs)]) (hLX : L0.length = X0.length) (op ar : Int) (hk : k ≤ 90000) (lg ln lc : Nat) (hlv : s.fv = .slice (some ⟨lg, 0, none⟩) ln lc) (j : Nat) (hj : s.FC[j]? = some v) :
  ∃ a m c w5, (Builtin.append_ #[76, 76] 76 #[v, .slice (some ⟨w.heap.size, 0, none⟩) 1 1]).run Tryz.prog (w.alloc (.cells #[.int .i64 op, .int .i64 ar] 75)) = .ok (.slice a m c) w5 ∧ Kept (fun q => v.ownBlock = some q) w w5 ∧
   w5.cell? ⟨lg, j, none⟩ = some v ∧ w5.frozen? ⟨lg, j, none⟩ = false ∧
   DrZ w0 (w5.setCell ⟨lg, j, none⟩ (.slice a m c)) r { s with CV := L0 ++ [.slice a m c], cx := X0 ++ [(k + 1, xs ++ [.int .i64 op, .int .i64 ar])], FC := s.FC.set j (.slice a m c) } ∧ w0.heap.size ≤ lg := by
 have hvi : s.CV[L0.length]? = some v := by rw [hL]; exact Zl _ _
 have hxi : s.cx[L0.length]? = some (k, xs) := by rw [hX, hLX]; exact Zl _ _
 have hco : w.ownsRow w0.heap.size 75 2 v k xs := h.code.row L0.length v (k, xs) hvi hxi
 obtain ⟨v', w5, hr, ho, hk0, hk1, hnb⟩ := Zlb hco (.int .i64 op) (.int .i64 ar) rfl rfl h.kept hk
 obtain ⟨a, c, hv⟩ := Zd ho
 have hch := Yz hco
 have hF5 := Zi hk1 hch h.fns (by decide)
 have hln : ln = s.nf := by
  rw [hlv] at hF5
  rcases hF5.2 with ⟨e, _⟩ | ⟨g, cap, cur, e, _⟩
  ·cases e
  ·cases e; rfl
 rw [hlv, ← hln] at hF5
 have hfg := hF5.lt lg rfl
 have hcell : w5.cell? ⟨lg, j, none⟩ = some v := by
  have := hF5.cells (g := lg) rfl j v hj
  rw [Addr.add_lit, Nat.zero_add] at this
  exact this
 have hs := Zg w5 lg j v'
 have hcb : Ch w5 (fun q => q = lg) 78 := fun q hq => by
  subst hq
  exact Yz hF5 _ rfl
 have hRow : (w5.setCell ⟨lg, j, none⟩ v').ownsRow w0.heap.size 78 4 s.fv s.nf (s.FC.set j v') := by
  have := (hF5.stored j v').1
  rw [hlv, ← hln]
  exact this
 have hCod := h.code.set (k := L0.length) hvi hk1 v' (k + 1, xs ++ [.int .i64 op, .int .i64 ar]) ho (Zdr hnb)
 rw [hL, Za7, hX, hLX, Za7] at hCod
 have hb5 := Zah hk1 hch h.box (by decide)
 have hy : DrY w0 (w5.setCell ⟨lg, j, none⟩ v') { s with CV := L0 ++ [v'], cx := X0 ++ [(k + 1, xs ++ [.int .i64 op, .int .i64 ar])], FC := s.FC.set j v' } :=
  ⟨Zi hs hcb (Zi hk1 hch h.data (by decide)) (by decide), hRow, hCod.ch hs hcb (by decide), (h.words.ch hk1 hch (by decide)).ch hs hcb (by decide), Zi hs hcb (Zi hk1 hch h.labs (by decide)) (by decide), Zi hs hcb (Zi hk1 hch h.plcs (by decide)) (by decide), (h.plc.ch hk1 hch (by decide)).ch hs hcb (by decide), Zi hs hcb (Zi hk1 hch h.wts (by decide)) (by decide)⟩
 have hfr : w5.frozen? ⟨lg, j, none⟩ = false := hF5.frozenAt _
 subst hv
 exact ⟨_, _, _, w5, hr, hk1, hcell, hfr, ⟨hy, Zah hs hcb hb5 (by decide), hk0.setCell (.inl hfg.1) _, h.lo⟩, hfg.1⟩
theorem DrZ.pushW (h : DrZ w0 w r s) (x0 x1 x2 : Int) (x3 : ByteArray) (x4 : Bool) (hl : s.nw ≤ 90000) : ∃ a m c w5, (Builtin.append_ #[61, 61] 61 #[s.wv, .slice (some ⟨w.heap.size, 0, none⟩) 1 1]).run Tryz.prog (w.alloc (.cells #[.int .i64 x0, .int .i64 x1, .int .i64 x2, .string x3, .bool x4] 71)) = .ok (.slice a m c) w5 ∧ Kept (fun q => s.wv.ownBlock = some q) w w5 ∧
  w5.heap[r]? = some (.cells s.cells 63 (0, 0)) ∧ DrZ w0 (w5.setCell ⟨r, 7, none⟩ (.slice a m c)) r { s with nw := s.nw + 1, WC := s.WC ++ [.int .i64 x0, .int .i64 x1, .int .i64 x2, .string x3, .bool x4], wv := .slice a m c } := by
 obtain ⟨v', w5, hr, ho, hk0, hk1, hnb⟩ := Zun h.wts (.int .i64 x0) (.int .i64 x1) (.int .i64 x2) (.string x3) (.bool x4) rfl rfl rfl rfl rfl h.kept (by omega)
 obtain ⟨a, c, hv⟩ := Zd ho
 have hc := Yz h.wts
 have hy : DrY w0 w5 { s with nw := s.nw + 1, WC := s.WC ++ [.int .i64 x0, .int .i64 x1, .int .i64 x2, .string x3, .bool x4], wv := v' } :=
  ⟨Zi hk1 hc h.data (by decide), Zi hk1 hc h.fns (by decide), h.code.ch hk1 hc (by decide), h.words.ch hk1 hc (by decide), Zi hk1 hc h.labs (by decide), Zi hk1 hc h.plcs (by decide), h.plc.ch hk1 hc (by decide), ho⟩
 obtain ⟨h6, h7⟩ := h.store hk1 (h.not_own h.wts (by decide)) (fun q hq => (h.wts.lt q hq).1) hy 7 v' rfl
 subst hv
 exact ⟨_, _, _, w5, hr, hk1, h6, h7⟩
theorem DrZ.last (h : DrZ w0 w r (shR R CV LV PV dv fv nv lv pv wv)) {gs : List Fnc} {f : Fnc} (hf : R.fs = gs ++ [f]) : ∃ C0 c L0 l P0 p, CV = C0 ++ [c] ∧ LV = L0 ++ [l] ∧ PV = P0 ++ [p] ∧ C0.length = gs.length ∧ L0.length = gs.length ∧ P0.length = gs.length := by
 have hl : R.fs.length = gs.length + 1 := by rw [hf]; simp
 obtain ⟨C0, c, h1, h2⟩ := Zcv (h.clen.trans hl)
 obtain ⟨L0, l, h3, h4⟩ := Zcv (h.llen.trans hl)
 obtain ⟨P0, p, h5, h6⟩ := Zcv (h.plen.trans hl)
 exact ⟨C0, c, L0, l, P0, p, h1, h3, h5, h2, h4, h6⟩
theorem Zv6 (R : Rdr) (gs : List Fnc) (f : Fnc) (CV L0 P0 : List Value) (l p dv fv nv lv pv wv : Value) (x : ByteArray) (hL : L0.length = gs.length) (hP : P0.length = gs.length) (hf : R.fs = gs ++ [f]) :
  ({ shR R CV (L0 ++ [l]) (P0 ++ [p]) dv fv nv lv pv wv with lx := gs.map Zbm ++ [(f.ls.length + 1, f.ls.map (fun x => Value.string x.1) ++ [.string x])], px := gs.map Zby ++ [(f.ls.length + 1, f.ls.map (fun x => Value.int .i64 x.2) ++ [.int .i64 (f.code.length : Int)])] } : Shp) =
   shR ⟨R.mem, R.sized, R.data, gs ++ [⟨f.nm, f.a, f.l, f.r, f.ls ++ [(x, (f.code.length : Int))], f.code⟩], R.ws⟩ CV (L0 ++ [l]) (P0 ++ [p]) dv fv nv lv pv wv := by
 have e : Zw R.fs CV = Zw (gs ++ [⟨f.nm, f.a, f.l, f.r, f.ls ++ [(x, (f.code.length : Int))], f.code⟩]) CV := Zaw _ _ _ (by rw [hf]; simp)
 unfold shR
 rw [e, hf]
 simp [Yj, nmC, Zbm, Zby]
theorem Zo5 (R : Rdr) (gs : List Fnc) (f : Fnc) (C0 LV PV : List Value) (c c' dv fv nv lv pv wv : Value) (op ar : Int) (hC : C0.length = gs.length) (hf : R.fs = gs ++ [f]) :
  ({ shR R (C0 ++ [c]) LV PV dv fv nv lv pv wv with CV := C0 ++ [c'], cx := gs.map Yj ++ [(f.code.length + 1, Zn f.code ++ [.int .i64 op, .int .i64 ar])], FC := (Zw R.fs (C0 ++ [c])).set (gs.length * 4 + 3) c' } : Shp) =
   shR ⟨R.mem, R.sized, R.data, gs ++ [Xh f op ar], R.ws⟩ (C0 ++ [c']) LV PV dv fv nv lv pv wv := by
 have e : (Zw R.fs (C0 ++ [c])).set (gs.length * 4 + 3) c' = Zw (gs ++ [Xh f op ar]) (C0 ++ [c']) := by
  rw [hf, Zfh gs C0 f c c' hC]
  exact Zaw _ _ _ (by simp [Xh])
 unfold shR
 rw [e, hf]
 simp [Yj, nmC, Zbm, Zby, Xh, Zgf]
theorem Zuo (R : Rdr) (CV LV PV : List Value) (dv fv nv lv pv wv wv' : Value) (x : Wt) :
  ({ shR R CV LV PV dv fv nv lv pv wv with nw := R.ws.length + 1, WC := Zbd R.ws ++ dwC x, wv := wv' } : Shp) = shR ⟨R.mem, R.sized, R.data, R.fs, R.ws ++ [x]⟩ CV LV PV dv fv nv lv pv wv' := by
 unfold shR
 simp [Zbd]
end Go.Proofs.YtgoabnehdmdikaaGreatDoor

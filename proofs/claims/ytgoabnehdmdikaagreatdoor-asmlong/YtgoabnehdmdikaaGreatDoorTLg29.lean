import Derived.Test.YtgoabnehdmdikaaGreatDoorTLg28
set_option linter.unusedVariables false
set_option linter.unusedSimpArgs false
set_option maxRecDepth 100000
set_option maxHeartbeats 64000000
namespace Go.Proofs.YtgoabnehdmdikaaGreatDoor
open Go.RowKit
variable {w0 w : World} {r : Nat} {R : Rdr} {s : Shp} {CV LV PV : List Value} {dv fv nv lv pv wv : Value}
abbrev Zde (R : Rdr) (gs : List Fnc) (f : Fnc) : Rdr := ⟨R.mem, R.sized, R.data, gs ++ [f], R.ws⟩
theorem Zme : ∀ (ls : List ByteArray) (f g : Fnc), Xu f ls = some g → g.code = f.code ∧ g.ls.length = f.ls.length + ls.length
 | [], f, g, h => by
  rw [Xu] at h
  cases h
  exact ⟨rfl, rfl⟩
 | s :: ss, f, g, h => by
  rw [Xu] at h
  split at h
  ·cases h
  ·obtain ⟨h1, h2⟩ := Zme ss _ g h
   refine ⟨h1, ?_⟩
   simp only [List.length_append, List.length_cons, List.length_nil] at h2 ⊢
   omega
theorem DrZ.lastc {gs : List Fnc} {f : Fnc} (h : DrZ w0 w r (shR (Zde R gs f) CV LV PV dv fv nv lv pv wv)) {C0 L0 P0 : List Value} {c l p : Value} (hC : CV = C0 ++ [c]) (hL : LV = L0 ++ [l]) (hP : PV = P0 ++ [p]) (hCl : C0.length = gs.length) (hLl : L0.length = gs.length) (hPl : P0.length = gs.length) :
  ∃ fg fc lr lc pr pc, fv = .slice (some ⟨fg, 0, none⟩) (gs.length + 1) fc ∧ lv = .slice (some ⟨lr, 0, none⟩) (gs.length + 1) lc ∧ pv = .slice (some ⟨pr, 0, none⟩) (gs.length + 1) pc ∧ w.cell? ⟨fg, gs.length * 4 + 3, none⟩ = some c ∧ w.cell? ⟨lr, gs.length, none⟩ = some l ∧ w.cell? ⟨pr, gs.length, none⟩ = some p ∧
   w.ownsRow w0.heap.size 75 2 c f.code.length (Zn f.code) ∧ w.ownsRow w0.heap.size 9 1 l f.ls.length (f.ls.map (fun x => Value.string x.1)) ∧ w.ownsRow w0.heap.size 3 1 p f.ls.length (f.ls.map (fun x => Value.int .i64 x.2)) := by
 have hF : w.ownsRow w0.heap.size 78 4 fv (gs.length + 1) (Zw (gs ++ [f]) CV) := by
  have := h.fns
  simpa [shR] using this
 have hLb : w.ownsRow w0.heap.size 37 1 lv (gs.length + 1) LV := by
  have := h.labs
  have e : LV.length = gs.length + 1 := by rw [hL]; simp [hLl]
  rw [← e]
  exact this
 have hPb : w.ownsRow w0.heap.size 73 1 pv (gs.length + 1) PV := by
  have := h.plcs
  have e : PV.length = gs.length + 1 := by rw [hP]; simp [hPl]
  rw [← e]
  exact this
 obtain ⟨fg, fc, c1, rfl, _, h1⟩ := Yw hF (by omega)
 obtain ⟨lr, lc, c2, rfl, _, h2⟩ := Yw hLb (by omega)
 obtain ⟨pr, pc, c3, rfl, _, h3⟩ := Yw hPb (by omega)
 refine ⟨fg, fc, lr, lc, pr, pc, rfl, rfl, rfl, ?_, ?_, ?_, ?_, ?_, ?_⟩
 ·have := hF.cells (g := fg) rfl (gs.length * 4 + 3) c (by
   rw [hC, Zal (gs ++ [f]) (C0 ++ [c]) gs.length f c (Zl _ _) (by rw [← hCl]; exact Zl _ _) 3 (by omega)]
   rfl)
  rw [Addr.add_lit, Nat.zero_add] at this
  exact this
 ·have := hLb.cells (g := lr) rfl gs.length l (by rw [hL, ← hLl]; exact Zl _ _)
  rw [Addr.add_lit, Nat.zero_add] at this
  exact this
 ·have := hPb.cells (g := pr) rfl gs.length p (by rw [hP, ← hPl]; exact Zl _ _)
  rw [Addr.add_lit, Nat.zero_add] at this
  exact this
 ·exact h.code.row gs.length c (Yj f) (by show CV[_]? = _; rw [hC, ← hCl]; exact Zl _ _) (by show ((gs ++ [f]).map Yj)[_]? = _; rw [List.map_append]; have := Zl (gs.map Yj) (Yj f); rw [List.length_map] at this; exact this)
 ·exact h.words.row (gs.length + 1) l (Zbm f) (by show LV[gs.length]? = some l; rw [hL, ← hLl]; exact Zl _ _) (by show ((gs ++ [f]).map Zbm)[gs.length]? = some (Zbm f); rw [List.map_append]; have := Zl (gs.map Zbm) (Zbm f); rw [List.length_map] at this; exact this)
 ·exact h.plc.row gs.length p (Zby f) (by show PV[_]? = _; rw [hP, ← hPl]; exact Zl _ _) (by show ((gs ++ [f]).map Zby)[_]? = _; rw [List.map_append]; have := Zl (gs.map Zby) (Zby f); rw [List.length_map] at this; exact this)
theorem Zce {w : World} {B e k n B' e' k' n' : Nat} {v v' : Value} {xs xs' : List Value} (h : w.ownsRow B e k v n xs) (h' : w.ownsRow B' e' k' v' n' xs') (hne : e ≠ e') : ∀ q, v.ownBlock = some q → v'.ownBlock ≠ some q := fun q h1 h2 => by
 obtain ⟨cs, f, e1⟩ := Yz h q h1
 obtain ⟨cs', f', e2⟩ := Yz h' q h2
 rw [e1] at e2
 simp only [Option.some.injEq, Obj.cells.injEq] at e2
 exact hne e2.2.1
structure LbX (w : World) (la : Option Addr) (ls : List ByteArray) (LV : List Value) : Prop where
 cell : ∀ (i : Nat) (s : ByteArray), ls[i]? = some s → ∃ g, la = some ⟨g, 0, none⟩ ∧ w.cell? ⟨g, i, none⟩ = some (.string s)
 lt : ∀ g, la = some ⟨g, 0, none⟩ → g < w.heap.size ∧ ∃ cs, w.heap[g]? = some (.cells cs 9 (0, 0))
 apart : ∀ g, la = some ⟨g, 0, none⟩ → ∀ v ∈ LV, v.ownBlock ≠ some g
theorem LbX.same {w w' : World} {la : Option Addr} {ls : List ByteArray} {LV : List Value} (h : LbX w la ls LV) (hk : Kept nF w w') : LbX w' la ls LV := by
 refine ⟨fun i s hs => ?_, fun g hg => ?_, h.apart⟩
 ·obtain ⟨g, h1, h2⟩ := h.cell i s hs
  exact ⟨g, h1, hk.cell h2 id⟩
 ·obtain ⟨h1, cs, h2⟩ := h.lt g hg
  exact ⟨Nat.lt_of_lt_of_le h1 hk.size, cs, Zc hk h2 id⟩
theorem LbX.turn {w w' : World} {S : Nat → Prop} {la : Option Addr} {ls : List ByteArray} {LV LV' : List Value} (h : LbX w la ls LV) (hk : Kept S w w') (hS : ∀ g, la = some ⟨g, 0, none⟩ → ¬ S g) (hV : ∀ g, la = some ⟨g, 0, none⟩ → ∀ v ∈ LV', v.ownBlock ≠ some g) : LbX w' la ls LV' := by
 refine ⟨fun i s hs => ?_, fun g hg => ?_, hV⟩
 ·obtain ⟨g, h1, h2⟩ := h.cell i s hs
  exact ⟨g, h1, hk.cell h2 (hS g h1)⟩
 ·obtain ⟨h1, cs, h2⟩ := h.lt g hg
  exact ⟨Nat.lt_of_lt_of_le h1 hk.size, cs, Zc hk h2 (hS g hg)⟩
theorem Zo6 (h : DrZ w0 w r (shR R CV LV PV dv fv nv lv pv wv)) (hl : R.fs.length ≤ 90000) (j0 j1 j2 op a ln : Int) (la : Option Addr) (ll lc : Nat) (nm dt wd : ByteArray) (gs : List Fnc) (f : Fnc) (hfs : R.fs = gs ++ [f]) (ls : List ByteArray) (hll : ll = ls.length) (hlb : LbX w la ls LV) (hln : f.ls.length + ls.length ≤ 80000) (hcn : f.code.length ≤ 80000) (hwn : R.ws.length ≤ 80000) (h46 : op < 46) :
  Calls Tryz.prog 22 #[.pointer (some ⟨r, 0, none⟩), .agg #[.int .i64 4, .slice la ll lc, .string nm, .int .i64 j0, .int .i64 j1, .int .i64 j2, .string dt, .int .i64 op, .int .i64 a, .string wd, .bool false], .int .i64 ln] w (Zdq w0 r (Zbl R ln ⟨4, ls, ⟨#[]⟩, 0, 0, 0, ⟨#[]⟩, op, a, wd, false⟩ gs f)) := by
 obtain ⟨fa, fc, hfv⟩ := Zd h.fns
 have hfv : fv = .slice fa R.fs.length fc := hfv
 subst hfv
 have hka : Kept nF w (w.alloc (.cells #[.int .i64 4, .slice la ll lc, .string nm, .int .i64 j0, .int .i64 j1, .int .i64 j2, .string dt, .int .i64 op, .int .i64 a, .string wd, .bool false] 66)) := (Kept.refl _ _).alloc _
 have hba := heap_alloc_new w (.cells #[.int .i64 4, .slice la ll lc, .string nm, .int .i64 j0, .int .i64 j1, .int .i64 j2, .string dt, .int .i64 op, .int .i64 a, .string wd, .bool false] 66)
 have HD1 := Za (h.same hka)
 have HX1 := Za hba
 have HLB1 := Za (hlb.same hka)
 have HFS := Za hfs
 have HBB : Hid (f.ls.length + ls.length ≤ 80000 ∧ f.code.length ≤ 80000 ∧ R.ws.length ≤ 80000) := ⟨hln, hcn, hwn⟩
 have HLL := Za hll
 have HO46 := Za h46
 have hllI : (ll : Int) ≤ 80000 := by omega
 clear h hka hba hlb hfs hln hcn hwn hll h46
 go_enter Tryz.func22, Tryz.ntmps22
 go_upto_region 1 with fail
 generalize w.alloc (.cells #[.int .i64 4, .slice la ll lc, .string nm, .int .i64 j0, .int .i64 j1, .int .i64 j2, .string dt, .int .i64 op, .int .i64 a, .string wd, .bool false] 66) = w1 at *
 obtain ⟨gx, hgx⟩ := nmd (w.heap.size)
 rw [← hgx] at HX1 ⊢
 clear hgx
 obtain ⟨⟨b0, b1, b2, b3, b4, b5, b6, b7, b8, b9, b10⟩, bf7, bf8, bf9⟩ := Zq HX1.out
 have HFT : Hid (Calls Tryz.prog 43 #[.pointer (some ⟨r, 0, none⟩), .agg #[.int .i64 4, .slice la ll lc, .string nm, .int .i64 j0, .int .i64 j1, .int .i64 j2, .string dt, .int .i64 op, .int .i64 a, .string wd, .bool false]] w1 fun e w' => e = .returned (.bool true) ∧ Kept nF w1 w') := by
  have h9 := Zdz HD1.out hl ⟨4, .slice la ll lc, nm, j0, j1, j2, dt, op, a, wd, false⟩
  rw [show Xw R (⟨4, .slice la ll lc, nm, j0, j1, j2, dt, op, a, wd, false⟩ : SL).k = true from (by
   show Xw R 4 = true
   unfold Xw
   rw [if_neg (by decide), if_neg (by decide), if_pos rfl, HFS.out]
   simp)] at h9
  exact h9
 go_wp2_with fail
 refine HFT.out.mono ?_
 rintro e w2 ⟨rfl, hk2⟩
 have HD2 := Za (HD1.out.same hk2)
 have HLB2 := Za (HLB1.out.same hk2)
 have HX2 := Za (Zc hk2 HX1.out id)
 clear hk2 HD1 HX1 HFT HLB1 b0 b1 b2 b3 b4 b5 b6 b7 b8 b9 b10 bf7 bf8 bf9
 obtain ⟨⟨b0, b1, b2, b3, b4, b5, b6, b7, b8, b9, b10⟩, bf7, bf8, bf9⟩ := Zq HX2.out
 obtain ⟨n, hn⟩ := nmd (R.fs.length)
 have c2 : w2.cell? ⟨r, 2, none⟩ = some (.slice fa n fc) := by
  rw [hn]
  exact Zb _ _ 2 _ _ _ HD2.out.box
 have HNF := Za hn
 have hnb : (n : Int) ≤ 90000 := by omega
 clear hn
 obtain ⟨m, hm⟩ := nmd (gs.length)
 have HM := Za hm
 have hnm : n = m + 1 := by rw [HNF.out, HFS.out, List.length_append, hm]; rfl
 have HD0 : Hid (DrZ w0 w2 r (shR (Zde R gs f) CV LV PV dv (.slice fa n fc) nv lv pv wv)) := by
  have h9 := HD2.out
  rw [← HNF.out] at h9
  have e : R = Zde R gs f := by unfold Zde; rw [← HFS.out]
  rw [← e]
  exact h9
 have hmI : (m : Int) ≤ 90000 := by omega
 have hnI : (n : Int) - 1 = (m : Int) := by omega
 have hmn : (m : Int) < (n : Int) := by omega
 have HNM := Za hnm
 clear HD2 hm hnm
 go_upto_region 20 with fail
 have HGS : Hid (gs.length = m) := HM.out.symm
 obtain ⟨C0, c, L0, l, P0, p, hC, hL, hP, hCl, hLl, hPl⟩ := HD0.out.last (gs := gs) (f := f) rfl
 obtain ⟨fg, fc', lr, lvc, pr, pvc, hfv, hlv, hpv, -, -, -, -, -, -⟩ := HD0.out.lastc hC hL hP hCl hLl hPl
 rw [HGS.out, ← HNM.out] at hfv hlv hpv
 cases hfv
 subst hlv
 subst hpv
 have HC0 : Hid (CV = C0 ++ [c] ∧ C0.length = gs.length) := ⟨hC, hCl⟩
 clear hC hL hP hCl hLl hPl c2 b0 b1 b2 b3 b4 b5 b6 b7 b8 b9 b10 bf7 bf8 bf9
 go_wp2
 go_loopw [8] (fun iv wx => ∃ (i : Nat) (f' : Fnc) (LV' PV' : List Value), iv = .int .i64 (i : Int) ∧ i ≤ ll ∧ Hid (Xu f ls = Xu f' (ls.drop i)) ∧ Hid (f'.code = f.code ∧ f'.ls.length = f.ls.length + i) ∧ Hid (DrZ w0 wx r (shR (Zde R gs f') CV LV' PV' dv (.slice (some ⟨fg, 0, none⟩) n fc) nv (.slice (some ⟨lr, 0, none⟩) n lvc) (.slice (some ⟨pr, 0, none⟩) n pvc) wv)) ∧ Hid (wx.heap[gx]? = some (.cells #[.int .i64 4, .slice la ll lc, .string nm, .int .i64 j0, .int .i64 j1, .int .i64 j2, .string dt, .int .i64 op, .int .i64 a, .string wd, .bool false] 66 (0, 0))) ∧ Hid (LbX wx la ls LV')) (fun iv _ => ll - (intOf iv).toNat)
 case atStart => exact ⟨0, f, LV, PV, rfl, Nat.zero_le _, rfl, ⟨rfl, rfl⟩, HD0, HX2, HLB2⟩
 case round =>
  clear HD0 HX2 HLB2
  obtain ⟨i, f', LV', PV', rfl, hil, HLF, HFC, HDd, HXd, HLd⟩ := hrel
  obtain ⟨C9, c9, L0, l, P0, p, hC, hL, hP, hCl, hLl, hPl⟩ := HDd.out.last (gs := gs) (f := f') rfl
  obtain ⟨_, _, _, _, _, _, hfv, hlv, hpv, y1, y2, y3, o1, o2, o3⟩ := HDd.out.lastc hC hL hP hCl hLl hPl
  rw [HGS.out, ← HNM.out] at hfv hlv hpv
  rw [HGS.out] at y1 y2 y3
  cases hfv
  cases hlv
  cases hpv
  have HLP : Hid (LV' = L0 ++ [l] ∧ PV' = P0 ++ [p] ∧ L0.length = gs.length ∧ P0.length = gs.length) := ⟨hL, hP, hLl, hPl⟩
  have HOO := Za (And.intro o1 (And.intro o2 o3))
  obtain ⟨lla, llc, hlsh⟩ := Zd o2
  obtain ⟨nl, hnl⟩ := nmd (f'.ls.length)
  have HNL := Za hnl
  rw [← hnl] at hlsh
  subst hlsh
  clear hC hL hP hCl hLl hPl o1 o2 o3 hnl
  have x1 := Zb _ _ 1 _ _ _ HXd.out
  by_cases hi : i < ll
  ·have hiI : (i : Int) < (ll : Int) := by omega
   obtain ⟨x, hx⟩ : ∃ x, ls[i]? = some x := by
    have hi2 : i < ls.length := by rw [← HLL.out]; exact hi
    exact ⟨_, List.getElem?_eq_getElem hi2⟩
   obtain ⟨lg, hlg, hxc⟩ := HLd.out.cell i x hx
   subst hlg
   have HDR : Hid (ls.drop i = x :: ls.drop (i + 1)) := by
    obtain ⟨hi2, rfl⟩ := List.getElem?_eq_some_iff.1 hx
    exact List.drop_eq_getElem_cons hi2
   have HXI := Za hx
   clear hx
   go_upto_region 23 with fail
   have hkd : Kept nF wr wr.drew := (Kept.refl _ _).drew
   have HDe := Za (HDd.out.same hkd)
   have HXe := Za (Zc hkd HXd.out id)
   have HLe := Za (HLd.out.same hkd)
   have HO2 : Hid (wr.drew.ownsRow w0.heap.size 9 1 (.slice lla nl llc) f'.ls.length (f'.ls.map (fun x => Value.string x.1))) := hkd.ownsRow HOO.out.2.1 (fun _ _ f => f)
   have z2 := hkd.cell y2 id
   have zx := hkd.cell hxc id
   clear HDd HXd HLd HOO hxc y1 y2 y3 x1 hkd
   refine wp_region_held_drew (S := fun w' => w' = wr.drew) (by kernel_rfl) rfl (fun qh => ?_)
   generalize wr.drew = w3 at *
   have l5 : w3.cell? ⟨r, 5, none⟩ = some (.slice (some ⟨lr, 0, none⟩) n lvc) := Zb _ _ 5 _ _ _ HDe.out.box
   have x1 := Zb _ _ 1 _ _ _ HXe.out
   have hST : Zkc w3 (.slice lla nl llc) (f'.ls.map Prod.fst) := Ze2 (B := w0.heap.size) (by
    have h9 := HO2.out
    have e : f'.ls.map (fun x => Value.string x.1) = labs (f'.ls.map Prod.fst) := by unfold labs; rw [List.map_map]; rfl
    rw [List.length_map, ← e]
    exact h9)
   have HHAS := Za (Zkd _ _ x w3 hST (by rw [List.length_map]; have := HBB.out.1; have := HFC.out.2; omega))
   clear hST
   by_cases hdup : (lkA f'.ls x).isSome = true
   ·have HE : Hid (Zbl R ln ⟨4, ls, ⟨#[]⟩, 0, 0, 0, ⟨#[]⟩, op, a, wd, false⟩ gs f = .bad 142) := by
     show _ = _
     unfold Zbl
     simp only
     rw [HLF.out, HDR.out, Xu, if_pos hdup]
     rfl
    obtain ⟨k, hk, hkn⟩ := Zio hdup
    have hkI : (0 : Int) ≤ (k : Int) := by omega
    rw [hk] at HHAS
    clear hk hkn hdup
    iterate 3
     refine tkn (v := ?_) 0 rfl ?_ ?_; rotate_left
     ·intro w hSw; go_simp; try with_reducible rfl
     try simp only [Act.put, tdy]
    iterate 1
     refine tkn (v := ?_) 3 rfl ?_ ?_; rotate_left
     ·intro w hSw; have hSw := hSw.symm; subst hSw; go_simp; try with_reducible rfl
     try simp only [Act.put, tdy]
    iterate 2
     refine tkn (v := ?_) 4 rfl ?_ ?_; rotate_left
     ·intro w hSw; go_simp; try with_reducible rfl
     try simp only [Act.put, tdy]
    iterate 1
     refine tkn (v := ?_) 6 rfl ?_ ?_; rotate_left
     ·intro w hSw; have hSw := hSw.symm; subst hSw; go_simp; try with_reducible rfl
     try simp only [Act.put, tdy]
    iterate 1
     refine tkn (v := ?_) 7 rfl ?_ ?_; rotate_left
     ·intro w hSw; go_simp; try with_reducible rfl
     try simp only [Act.put, tdy]
    iterate 1
     refine tkn (v := ?_) 8 rfl ?_ ?_; rotate_left
     ·intro w hSw; have hSw := hSw.symm; subst hSw; go_simp; try with_reducible rfl
     try simp only [Act.put, tdy]
    iterate 2
     refine tkn (v := ?_) 9 rfl ?_ ?_; rotate_left
     ·intro w hSw; go_simp; try with_reducible rfl
     try simp only [Act.put, tdy]
    iterate 1
     refine tkn (v := ?_) 11 rfl ?_ ?_; rotate_left
     ·intro w hSw; have hSw := hSw.symm; subst hSw; go_simp; try with_reducible rfl
     try simp only [Act.put, tdy]
    refine rdy 12 rfl (fun K hK => ?_)
    go_simp
    refine HHAS.out.mono ?_
    rintro e w4 ⟨rfl, hw⟩
    have hw := hw.symm
    subst hw
    refine hK.out _ _ qh (fun qh => ?_)
    clear hK K
    try simp only [Act.put, tdy]
    iterate 1
     refine tkn (v := ?_) 13 rfl ?_ ?_; rotate_left
     ·intro w hSw; go_simp; try with_reducible rfl
     try simp only [Act.put, tdy]
    refine wpAnyH_done (by kernel_rfl) ?_ _
    go_wp2
    go_ret
    exact ⟨HDe.out.kept, .inr ⟨142, by decide, HE.out, rfl⟩⟩
   ·have hk := Zmd hdup
    rw [hk] at HHAS
    clear hk
    iterate 3
     refine tkn (v := ?_) 0 rfl ?_ ?_; rotate_left
     ·intro w hSw; go_simp; try with_reducible rfl
     try simp only [Act.put, tdy]
    iterate 1
     refine tkn (v := ?_) 3 rfl ?_ ?_; rotate_left
     ·intro w hSw; have hSw := hSw.symm; subst hSw; go_simp; try with_reducible rfl
     try simp only [Act.put, tdy]
    iterate 2
     refine tkn (v := ?_) 4 rfl ?_ ?_; rotate_left
     ·intro w hSw; go_simp; try with_reducible rfl
     try simp only [Act.put, tdy]
    iterate 1
     refine tkn (v := ?_) 6 rfl ?_ ?_; rotate_left
     ·intro w hSw; have hSw := hSw.symm; subst hSw; go_simp; try with_reducible rfl
     try simp only [Act.put, tdy]
    iterate 1
     refine tkn (v := ?_) 7 rfl ?_ ?_; rotate_left
     ·intro w hSw; go_simp; try with_reducible rfl
     try simp only [Act.put, tdy]
    iterate 1
     refine tkn (v := ?_) 8 rfl ?_ ?_; rotate_left
     ·intro w hSw; have hSw := hSw.symm; subst hSw; go_simp; try with_reducible rfl
     try simp only [Act.put, tdy]
    iterate 2
     refine tkn (v := ?_) 9 rfl ?_ ?_; rotate_left
     ·intro w hSw; go_simp; try with_reducible rfl
     try simp only [Act.put, tdy]
    iterate 1
     refine tkn (v := ?_) 11 rfl ?_ ?_; rotate_left
     ·intro w hSw; have hSw := hSw.symm; subst hSw; go_simp; try with_reducible rfl
     try simp only [Act.put, tdy]
    refine rdy 12 rfl (fun K hK => ?_)
    go_simp
    refine HHAS.out.mono ?_
    rintro e w4 ⟨rfl, hw⟩
    have hw := hw.symm
    subst hw
    refine hK.out _ _ qh (fun qh => ?_)
    clear hK K
    try simp only [Act.put, tdy]
    iterate 1
     refine tkn (v := ?_) 13 rfl ?_ ?_; rotate_left
     ·intro w hSw; go_simp; try with_reducible rfl
     try simp only [Act.put, tdy]
    refine wpAnyH_done (by kernel_rfl) ?_ _
    have HND := Za hdup
    clear hdup HHAS l5 x1
    go_upto_region 25 with fail
    have hkd : Kept nF w3 w3.drew := (Kept.refl _ _).drew
    have HDf := Za (HDe.out.same hkd)
    have HXf := Za (Zc hkd HXe.out id)
    have HLf := Za (HLe.out.same hkd)
    have l0 := hkd.cell z2 id
    have zy := hkd.cell zx id
    have HOf : Hid (w3.drew.ownsRow w0.heap.size 9 1 (.slice lla nl llc) f'.ls.length (f'.ls.map (fun x => Value.string x.1))) := hkd.ownsRow HO2.out (fun _ _ f => f)
    clear HDe HXe HLe HO2 z2 zx hkd qh
    refine wp_region_held_drew (S := fun w' => Kept (fun q => (Value.slice lla nl llc).ownBlock = some q ∨ q = lr) w3.drew w') (by kernel_rfl) (Kept.refl _ _) (fun qh => ?_)
    generalize w3.drew = w5 at *
    have hrl : (Value.slice (some ⟨lr, 0, none⟩) n lvc).ownBlock = some lr := rfl
    have n1 : ¬ ((Value.slice lla nl llc).ownBlock = some r ∨ r = lr) := fun e => e.elim (HDf.out.not_own HOf.out (by decide)) (fun e => HDf.out.not_own HDf.out.labs (by decide) (by rw [e]; rfl))
    have n2 : ¬ ((Value.slice lla nl llc).ownBlock = some gx ∨ gx = lr) := fun e => e.elim (fun e => Zs HOf.out HXf.out (by decide) e) (fun e => Zs HDf.out.labs HXf.out (by decide) (by rw [e]; rfl))
    have n3 : ¬ ((Value.slice lla nl llc).ownBlock = some lg ∨ lg = lr) := fun e => e.elim (HLf.out.apart lg rfl _ (by rw [HLP.out.1]; simp)) (fun e => by
     obtain ⟨_, cs, h9⟩ := HLf.out.lt lg rfl
     exact Zs HDf.out.labs h9 (by decide) (by rw [e]; rfl))
    have l5 : w5.cell? ⟨r, 5, none⟩ = some (.slice (some ⟨lr, 0, none⟩) n lvc) := Zb _ _ 5 _ _ _ HDf.out.box
    have HSM : Hid (∀ w', Kept (fun q => (Value.slice lla nl llc).ownBlock = some q ∨ q = lr) w5 w' → w'.cell? ⟨r, 5, none⟩ = some (.slice (some ⟨lr, 0, none⟩) n lvc) ∧ w'.cell? ⟨gx, 1, none⟩ = some (.slice (some ⟨lg, 0, none⟩) ll lc) ∧ w'.cell? ⟨lg, i, none⟩ = some (.string x)) := fun w' hw => ⟨hw.cell l5 n1, hw.cell (Zb _ _ 1 _ _ _ HXf.out) n2, hw.cell zy n3⟩
    obtain ⟨a5, m5, c5, w6, hr, hk5, hnb, q1, f1, hz5, hlo⟩ := HDf.out.lab (L0 := L0) (v := .slice lla nl llc) (X0 := gs.map Zbm) (k := f'.ls.length) (xs := f'.ls.map (fun x => Value.string x.1)) HLP.out.1 (by show (gs ++ [f']).map Zbm = _; rw [List.map_append]; rfl) (by rw [HLP.out.2.2.1, List.length_map]) x (by have := HBB.out.1; have := HFC.out.2; have := HLL.out; omega) lr n lvc rfl
    rw [HLP.out.2.2.1, HGS.out] at q1 f1 hz5
    have HR := Za hr
    have HK5 := Za (hk5.mono (T := fun q => (Value.slice lla nl llc).ownBlock = some q ∨ q = lr) (fun _ _ e => .inl e))
    have HK6 := Za (HK5.out.setCell (p := ⟨lr, m, none⟩) (.inr (.inr rfl)) (.slice a5 m5 c5))
    have HDg := Za hz5
    have HXg := Za (Zc HK6.out HXf.out n2)
    have HLg : Hid (LbX (w6.setCell ⟨lr, m, none⟩ (.slice a5 m5 c5)) (some ⟨lg, 0, none⟩) ls (L0 ++ [.slice a5 m5 c5])) := HLf.out.turn HK6.out (fun g hg => by
     cases hg
     exact n3) (fun g hg v hv => by
     cases hg
     rcases List.mem_append.1 hv with hv | hv
     ·exact HLf.out.apart lg rfl v (by rw [HLP.out.1]; exact List.mem_append_left _ hv)
     ·rw [List.mem_singleton.1 hv]
      intro e
      rcases Zdr hnb lg e with h | h
      ·exact n3 (.inl h)
      ·have := (HLf.out.lt lg rfl).1
       omega)
    obtain ⟨_, _, _, _, _, _, hfv, hlv, hpv, y1, -, y3, o1, -, o3⟩ := HDf.out.lastc HC0.out.1 HLP.out.1 HLP.out.2.1 HC0.out.2 HLP.out.2.2.1 HLP.out.2.2.2
    rw [HGS.out, ← HNM.out] at hfv hlv hpv
    rw [HGS.out] at y1 y3
    cases hfv
    cases hlv
    cases hpv
    obtain ⟨ca, cc, hcs⟩ := Zd o1
    obtain ⟨nk, hnk⟩ := nmd (f'.code.length)
    have HNK := Za hnk
    rw [← hnk] at hcs
    obtain ⟨pa9, pc9, hps⟩ := Zd o3
    rw [← HNL.out] at hps
    have n4 : ¬ ((Value.slice lla nl llc).ownBlock = some fg ∨ fg = lr) := fun e => e.elim (Zce HOf.out HDf.out.fns (by decide) fg · rfl) (fun e => Zce HDf.out.labs HDf.out.fns (by decide) lr rfl (by rw [← e]; rfl))
    have n5 : ¬ ((Value.slice lla nl llc).ownBlock = some pr ∨ pr = lr) := fun e => e.elim (Zce HOf.out HDf.out.plcs (by decide) pr · rfl) (fun e => Zce HDf.out.labs HDf.out.plcs (by decide) lr rfl (by rw [← e]; rfl))
    have t1 := HK6.out.cell y1 n4
    have t3 := HK6.out.cell y3 n5
    have HOp := Za (HK6.out.ownsRow o3 (fun q hq e => e.elim (fun e => Zce HOf.out o3 (by decide) q e hq) (fun e => Zce HDf.out.labs o3 (by decide) lr rfl (by rw [← e]; exact hq))))
    rw [hcs] at t1
    rw [hps] at t3 HOp
    clear hr hk5 hz5 hnb hlo n1 n2 n3 n4 n5 hrl l5 zy y1 y3 o1 o3 hnk
    iterate 3
     refine tkn (v := ?_) 0 rfl ?_ ?_; rotate_left
     ·intro w hSw; go_simp; try with_reducible rfl
     try simp only [Act.put, tdy]
    iterate 1
     refine tkn (v := ?_) 3 rfl ?_ ?_; rotate_left
     ·intro w hSw; obtain ⟨s1, s2, s3⟩ := HSM.out w hSw; go_simp; try with_reducible rfl
     try simp only [Act.put, tdy]
    iterate 4
     refine tkn (v := ?_) 4 rfl ?_ ?_; rotate_left
     ·intro w hSw; go_simp; try with_reducible rfl
     try simp only [Act.put, tdy]
    iterate 1
     refine tkn (v := ?_) 8 rfl ?_ ?_; rotate_left
     ·intro w hSw; obtain ⟨s1, s2, s3⟩ := HSM.out w hSw; go_simp; try with_reducible rfl
     try simp only [Act.put, tdy]
    iterate 2
     refine tkn (v := ?_) 9 rfl ?_ ?_; rotate_left
     ·intro w hSw; go_simp; try with_reducible rfl
     try simp only [Act.put, tdy]
    iterate 1
     refine tkn (v := ?_) 12 rfl ?_ ?_; rotate_left
     ·intro w hSw; go_simp; try with_reducible rfl
     try simp only [Act.put, tdy]
    iterate 1
     refine tkn (v := ?_) 13 rfl ?_ ?_; rotate_left
     ·intro w hSw; obtain ⟨s1, s2, s3⟩ := HSM.out w hSw; go_simp; try with_reducible rfl
     try simp only [Act.put, tdy]
    iterate 2
     refine tkn (v := ?_) 14 rfl ?_ ?_; rotate_left
     ·intro w hSw; go_simp; try with_reducible rfl
     try simp only [Act.put, tdy]
    iterate 1
     refine tkn (v := ?_) 16 rfl ?_ ?_; rotate_left
     ·intro w hSw; obtain ⟨s1, s2, s3⟩ := HSM.out w hSw; go_simp; try with_reducible rfl
     try simp only [Act.put, tdy]
    refine (fun (hfin1 : ?G1) => ?main1) ?fin1
    case main1 =>
     refine wpAnyH_ready (rs := [11, 17]) (by kernel_rfl) (by simp) ?_
     refine AllReadyH.cons rfl (fun K hK => ?_) (AllReadyH.cons rfl (fun K hK => ?_) AllReadyH.nil)
     ·have l1 := l0
      go_simp
      refine hK.out _ _ qh (fun qh => ?_)
      clear hK K
      try simp only [Act.put, tdy]
      clear l1
      refine rdy 17 rfl (fun K hK => ?_)
      go_simp
      refine hK.out _ _ (qh.alloc _) (fun qh => ?_)
      clear hK K
      try simp only [Act.put, tdy]
      refine rdy 18 rfl (fun K hK => ?_)
      refine Zm rfl (.tmp 144) (.tmp 150) 37 37 rfl _ _ rfl rfl (.slice a5 m5 c5) w6 HR.out ?_
      refine hK.out _ _ HK5.out (fun qh => ?_)
      clear hK K
      try simp only [Act.put, tdy]
      iterate 1
       refine tkn (v := ?_) 19 rfl ?_ ?_; rotate_left
       ·intro w hSw; go_simp; try with_reducible rfl
       try simp only [Act.put, tdy]
      refine rdy 20 rfl (fun K hK => ?_)
      go_simp
      refine hK.out _ _ HK6.out (fun qh => ?_)
      clear hK K
      try simp only [Act.put, tdy]
      refine wpAnyH_done (by kernel_rfl) ?_ _
      exact hfin1
     ·go_simp
      refine hK.out _ _ (qh.alloc _) (fun qh => ?_)
      clear hK K
      try simp only [Act.put, tdy]
      have l1 : (w5.alloc (.cells #[.string x] 9)).cell? ⟨lr, m, none⟩ = some (.slice lla nl llc) := ((Kept.refl nF w5).alloc _).cell l0 id
      refine rdy 11 rfl (fun K hK => ?_)
      go_simp
      refine hK.out _ _ qh (fun qh => ?_)
      clear hK K
      try simp only [Act.put, tdy]
      clear l1
      refine rdy 18 rfl (fun K hK => ?_)
      refine Zm rfl (.tmp 144) (.tmp 150) 37 37 rfl _ _ rfl rfl (.slice a5 m5 c5) w6 HR.out ?_
      refine hK.out _ _ HK5.out (fun qh => ?_)
      clear hK K
      try simp only [Act.put, tdy]
      iterate 1
       refine tkn (v := ?_) 19 rfl ?_ ?_; rotate_left
       ·intro w hSw; go_simp; try with_reducible rfl
       try simp only [Act.put, tdy]
      refine rdy 20 rfl (fun K hK => ?_)
      go_simp
      refine hK.out _ _ HK6.out (fun qh => ?_)
      clear hK K
      try simp only [Act.put, tdy]
      refine wpAnyH_done (by kernel_rfl) ?_ _
      exact hfin1
    clear l0 q1 f1 HSM HR HK5 HK6 qh HOf HDf HXf HLf
    generalize w6.setCell ⟨lr, m, none⟩ (.slice a5 m5 c5) = w7 at *
    go_upto_region 26 with fail
    have hkd : Kept nF w7 w7.drew := (Kept.refl _ _).drew
    have HDf := Za (HDg.out.same hkd)
    have HXf := Za (Zc hkd HXg.out id)
    have HLf := Za (HLg.out.same hkd)
    have l0 := hkd.cell t3 id
    have zy := hkd.cell t1 id
    have HOf := Za (hkd.ownsRow HOp.out (fun _ _ f => f))
    clear HDg HXg HLg HOp t1 t3 hkd
    refine wp_region_held_drew (S := fun w' => Kept (fun q => (Value.slice pa9 nl pc9).ownBlock = some q ∨ q = pr) w7.drew w') (by kernel_rfl) (Kept.refl _ _) (fun qh => ?_)
    generalize w7.drew = w8 at *
    have n1 : ¬ ((Value.slice pa9 nl pc9).ownBlock = some r ∨ r = pr) := fun e => e.elim (HDf.out.not_own HOf.out (by decide)) (fun e => HDf.out.not_own HDf.out.plcs (by decide) (by rw [e]; rfl))
    have n2 : ¬ ((Value.slice pa9 nl pc9).ownBlock = some gx ∨ gx = pr) := fun e => e.elim (fun e => Zs HOf.out HXf.out (by decide) e) (fun e => Zs HDf.out.plcs HXf.out (by decide) (by rw [e]; rfl))
    have n4 : ¬ ((Value.slice pa9 nl pc9).ownBlock = some fg ∨ fg = pr) := fun e => e.elim (Zce HOf.out HDf.out.fns (by decide) fg · rfl) (fun e => Zce HDf.out.plcs HDf.out.fns (by decide) pr rfl (by rw [← e]; rfl))
    have n3 : ¬ ((Value.slice pa9 nl pc9).ownBlock = some lg ∨ lg = pr) := fun e => by
     obtain ⟨_, cs, h9⟩ := HLf.out.lt lg rfl
     rcases e with e | e
     ·exact Zs HOf.out h9 (by decide) e
     ·exact Zs HDf.out.plcs h9 (by decide) (by rw [e]; rfl)
    have l6 : w8.cell? ⟨r, 6, none⟩ = some (.slice (some ⟨pr, 0, none⟩) n pvc) := Zb _ _ 6 _ _ _ HDf.out.box
    have l2 : w8.cell? ⟨r, 2, none⟩ = some (.slice (some ⟨fg, 0, none⟩) n fc) := Zb _ _ 2 _ _ _ HDf.out.box
    have HSM : Hid (∀ w', Kept (fun q => (Value.slice pa9 nl pc9).ownBlock = some q ∨ q = pr) w8 w' → w'.cell? ⟨r, 6, none⟩ = some (.slice (some ⟨pr, 0, none⟩) n pvc) ∧ w'.cell? ⟨r, 2, none⟩ = some (.slice (some ⟨fg, 0, none⟩) n fc) ∧ w'.cell? ⟨fg, m * 4 + 3, none⟩ = some (.slice ca nk cc)) := fun w' hw => ⟨hw.cell l6 n1, hw.cell l2 n1, hw.cell zy n4⟩
    obtain ⟨a6, m6, c6, w9, hr, hk5, hnb, q1, f1, hz5, hlo⟩ := HDf.out.place (L0 := P0) (v := .slice pa9 nl pc9) (X0 := gs.map Zby) (k := f'.ls.length) (xs := f'.ls.map (fun x => Value.int .i64 x.2)) (by show PV' = _; rw [HLP.out.2.1, hps]) (by show (gs ++ [f']).map Zby = _; rw [List.map_append]; rfl) (by rw [HLP.out.2.2.2, List.length_map]) (nk : Int) (by have := HBB.out.1; have := HFC.out.2; have := HLL.out; omega) pr n pvc rfl
    rw [HLP.out.2.2.2, HGS.out] at q1 f1 hz5
    have HR := Za hr
    have HK5 := Za (hk5.mono (T := fun q => (Value.slice pa9 nl pc9).ownBlock = some q ∨ q = pr) (fun _ _ e => .inl e))
    have HK6 := Za (HK5.out.setCell (p := ⟨pr, m, none⟩) (.inr (.inr rfl)) (.slice a6 m6 c6))
    have HDg : Hid (DrZ w0 (w9.setCell ⟨pr, m, none⟩ (.slice a6 m6 c6)) r (shR (Zde R gs ⟨f'.nm, f'.a, f'.l, f'.r, f'.ls ++ [(x, (f'.code.length : Int))], f'.code⟩) CV (L0 ++ [.slice a5 m5 c5]) (P0 ++ [.slice a6 m6 c6]) dv (.slice (some ⟨fg, 0, none⟩) n fc) nv (.slice (some ⟨lr, 0, none⟩) n lvc) (.slice (some ⟨pr, 0, none⟩) n pvc) wv)) := by
     have e := Zv6 (Zde R gs f') gs f' CV L0 P0 (.slice a5 m5 c5) (.slice a6 m6 c6) dv (.slice (some ⟨fg, 0, none⟩) n fc) nv (.slice (some ⟨lr, 0, none⟩) n lvc) (.slice (some ⟨pr, 0, none⟩) n pvc) wv x HLP.out.2.2.1 HLP.out.2.2.2 rfl
     show DrZ _ _ _ _
     rw [HNK.out] at hz5
     exact e ▸ hz5
    have HXg := Za (Zc HK6.out HXf.out n2)
    have HLg := Za (HLf.out.turn HK6.out (LV' := L0 ++ [.slice a5 m5 c5]) (fun g hg => by
     cases hg
     exact n3) HLf.out.apart)
    have HF2 : Hid (Xu f ls = Xu ⟨f'.nm, f'.a, f'.l, f'.r, f'.ls ++ [(x, (f'.code.length : Int))], f'.code⟩ (ls.drop (i + 1))) := by
     show _ = _
     rw [HLF.out, HDR.out, Xu, if_neg HND.out]
    clear hr hk5 hz5 hnb hlo n1 n2 n3 n4 l6 l2 zy
    iterate 3
     refine tkn (v := ?_) 0 rfl ?_ ?_; rotate_left
     ·intro w hSw; go_simp; try with_reducible rfl
     try simp only [Act.put, tdy]
    iterate 1
     refine tkn (v := ?_) 3 rfl ?_ ?_; rotate_left
     ·intro w hSw; obtain ⟨s1, s2, s3⟩ := HSM.out w hSw; go_simp; try with_reducible rfl
     try simp only [Act.put, tdy]
    iterate 4
     refine tkn (v := ?_) 4 rfl ?_ ?_; rotate_left
     ·intro w hSw; go_simp; try with_reducible rfl
     try simp only [Act.put, tdy]
    iterate 1
     refine tkn (v := ?_) 8 rfl ?_ ?_; rotate_left
     ·intro w hSw; obtain ⟨s1, s2, s3⟩ := HSM.out w hSw; go_simp; try with_reducible rfl
     try simp only [Act.put, tdy]
    iterate 2
     refine tkn (v := ?_) 9 rfl ?_ ?_; rotate_left
     ·intro w hSw; go_simp; try with_reducible rfl
     try simp only [Act.put, tdy]
    iterate 4
     refine tkn (v := ?_) 12 rfl ?_ ?_; rotate_left
     ·intro w hSw; go_simp; try with_reducible rfl
     try simp only [Act.put, tdy]
    iterate 1
     refine tkn (v := ?_) 16 rfl ?_ ?_; rotate_left
     ·intro w hSw; obtain ⟨s1, s2, s3⟩ := HSM.out w hSw; go_simp; try with_reducible rfl
     try simp only [Act.put, tdy]
    iterate 3
     refine tkn (v := ?_) 17 rfl ?_ ?_; rotate_left
     ·intro w hSw; go_simp; try with_reducible rfl
     try simp only [Act.put, tdy]
    iterate 1
     refine tkn (v := ?_) 20 rfl ?_ ?_; rotate_left
     ·intro w hSw; obtain ⟨s1, s2, s3⟩ := HSM.out w hSw; go_simp; try with_reducible rfl
     try simp only [Act.put, tdy]
    iterate 1
     refine tkn (v := ?_) 21 rfl ?_ ?_; rotate_left
     ·intro w hSw; go_simp; try with_reducible rfl
     try simp only [Act.put, tdy]
    refine (fun (hfin2 : ?G2) => ?main2) ?fin2
    case main2 =>
     refine wpAnyH_ready (rs := [11, 22]) (by kernel_rfl) (by simp) ?_
     refine AllReadyH.cons rfl (fun K hK => ?_) (AllReadyH.cons rfl (fun K hK => ?_) AllReadyH.nil)
     ·have l1 := l0
      go_simp
      refine hK.out _ _ qh (fun qh => ?_)
      clear hK K
      try simp only [Act.put, tdy]
      clear l1
      refine rdy 22 rfl (fun K hK => ?_)
      go_simp
      refine hK.out _ _ (qh.alloc _) (fun qh => ?_)
      clear hK K
      try simp only [Act.put, tdy]
      refine rdy 23 rfl (fun K hK => ?_)
      refine Zm rfl (.tmp 164) (.tmp 175) 73 73 rfl _ _ rfl rfl (.slice a6 m6 c6) w9 HR.out ?_
      refine hK.out _ _ HK5.out (fun qh => ?_)
      clear hK K
      try simp only [Act.put, tdy]
      iterate 1
       refine tkn (v := ?_) 24 rfl ?_ ?_; rotate_left
       ·intro w hSw; go_simp; try with_reducible rfl
       try simp only [Act.put, tdy]
      refine rdy 25 rfl (fun K hK => ?_)
      go_simp
      refine hK.out _ _ HK6.out (fun qh => ?_)
      clear hK K
      try simp only [Act.put, tdy]
      refine wpAnyH_done (by kernel_rfl) ?_ _
      exact hfin2
     ·go_simp
      refine hK.out _ _ (qh.alloc _) (fun qh => ?_)
      clear hK K
      try simp only [Act.put, tdy]
      have l1 : (w8.alloc (.cells #[.int .i64 (nk : Int)] 3)).cell? ⟨pr, m, none⟩ = some (.slice pa9 nl pc9) := ((Kept.refl nF w8).alloc _).cell l0 id
      refine rdy 11 rfl (fun K hK => ?_)
      go_simp
      refine hK.out _ _ qh (fun qh => ?_)
      clear hK K
      try simp only [Act.put, tdy]
      clear l1
      refine rdy 23 rfl (fun K hK => ?_)
      refine Zm rfl (.tmp 164) (.tmp 175) 73 73 rfl _ _ rfl rfl (.slice a6 m6 c6) w9 HR.out ?_
      refine hK.out _ _ HK5.out (fun qh => ?_)
      clear hK K
      try simp only [Act.put, tdy]
      iterate 1
       refine tkn (v := ?_) 24 rfl ?_ ?_; rotate_left
       ·intro w hSw; go_simp; try with_reducible rfl
       try simp only [Act.put, tdy]
      refine rdy 25 rfl (fun K hK => ?_)
      go_simp
      refine hK.out _ _ HK6.out (fun qh => ?_)
      clear hK K
      try simp only [Act.put, tdy]
      refine wpAnyH_done (by kernel_rfl) ?_ _
      exact hfin2
    clear l0 q1 f1 HSM HR HK5 HK6 qh HOf HDf HXf HLf
    generalize w9.setCell ⟨pr, m, none⟩ (.slice a6 m6 c6) = w10 at *
    go_wp2
    go_roundw
    case rel => exact ⟨i + 1, _, _, _, rfl, by omega, HF2, ⟨HFC.out.1, by have := HFC.out.2; simp only [List.length_append, List.length_cons, List.length_nil]; omega⟩, HDg, HXg, HLg⟩
    case measure => simp [intOf]; omega
  ·have hil' : i = ll := by omega
   have HLE : Hid (Xu f ls = some f') := by
    show _ = _
    rw [HLF.out, hil', List.drop_eq_nil_of_le (by rw [HLL.out]; exact Nat.le_refl _)]
    rfl
   have hiI : ¬ (i : Int) < (ll : Int) := by omega
   clear y1 y2 y3 HOO x1
   obtain ⟨_, _, _, _, _, _, hfv, hlv, hpv, y1, -, -, o1, -, -⟩ := HDd.out.lastc HC0.out.1 HLP.out.1 HLP.out.2.1 HC0.out.2 HLP.out.2.2.1 HLP.out.2.2.2
   rw [HGS.out, ← HNM.out] at hfv hlv hpv
   rw [HGS.out] at y1
   cases hfv
   cases hlv
   cases hpv
   obtain ⟨ca, cc, hcs⟩ := Zd o1
   obtain ⟨nk, hnk⟩ := nmd (f'.code.length)
   have HNK := Za hnk
   rw [← hnk] at hcs
   subst hcs
   have hnkI : (nk : Int) ≤ 90000 := by have := HBB.out.2.1; have := congrArg List.length HFC.out.1; omega
   clear o1 hnk hil' HLF
   obtain ⟨⟨b0, b1, b2, b3, b4, b5, b6, b7, b8, b9, b10⟩, bf7, bf8, bf9⟩ := Zq HXd.out
   by_cases hop : op < 0
   ·have HE : Hid (Zbl R ln ⟨4, ls, ⟨#[]⟩, 0, 0, 0, ⟨#[]⟩, op, a, wd, false⟩ gs f = .good (Zde R gs f')) := by
     show _ = _
     unfold Zbl
     simp only
     rw [HLE.out]
     simp only
     rw [if_neg (by simp), if_pos hop]
    go_wp2
    go_ret
    exact ⟨HDd.out.kept, .inl ⟨_, HE.out, rfl, _, _, _, _, _, _, _, _, _, HDd.out⟩⟩
   have hop0 : ¬ op < 0 := hop
   obtain ⟨k, hk⟩ : ∃ k : Nat, op = (k : Int) := ⟨op.toNat, by omega⟩
   subst hk
   have hk46 : k < 46 := by have := HO46.out; omega
   clear hop
   by_cases hw : wd = ⟨#[]⟩
   ·subst hw
    have HE : Hid (Zbl R ln ⟨4, ls, ⟨#[]⟩, 0, 0, 0, ⟨#[]⟩, (k : Int), a, ⟨#[]⟩, false⟩ gs f = .good ⟨R.mem, R.sized, R.data, gs ++ [Xh f' (k : Int) a], (Zde R gs f').ws⟩) := by
     show _ = _
     unfold Zbl
     simp only
     rw [HLE.out]
     simp only
     rw [if_neg (by simp), if_neg hop0]
     simp [Zf7]
    have HDt := HDd
    have HXt := HXd
    have yt := y1
    clear HDd HXd y1 HLd
    go_upto_region 31 with fail
    have hkd : Kept nF wr wr.drew := (Kept.refl _ _).drew
    have HDf := Za (HDt.out.same hkd)
    have HXf := Za (Zc hkd HXt.out id)
    have l0 := hkd.cell yt id
    clear HDt HXt yt hkd b0 b1 b2 b3 b4 b5 b6 b7 b8 b9 b10 bf7 bf8 bf9
    refine wp_region_held_drew (S := fun w' => Kept (fun q => (Value.slice ca nk cc).ownBlock = some q ∨ q = fg) wr.drew w') (by kernel_rfl) (Kept.refl _ _) (fun qh => ?_)
    generalize wr.drew = w8 at *
    have hcx : (gs ++ [f']).map Yj = gs.map Yj ++ [(f'.code.length, Zn f'.code)] := by rw [List.map_append]; rfl
    have HOc : Hid (w8.ownsRow w0.heap.size 75 2 (.slice ca nk cc) f'.code.length (Zn f'.code)) := HDf.out.code.row gs.length _ (f'.code.length, Zn f'.code) (by show CV[gs.length]? = _; rw [HC0.out.1, ← HC0.out.2]; exact Zl _ _) (by show ((gs ++ [f']).map Yj)[gs.length]? = _; rw [hcx]; have := Zl (gs.map Yj) (f'.code.length, Zn f'.code); rw [List.length_map] at this; exact this)
    have n1 : ¬ ((Value.slice ca nk cc).ownBlock = some r ∨ r = fg) := fun e => e.elim (HDf.out.not_own HOc.out (by decide)) (fun e => HDf.out.not_own HDf.out.fns (by decide) (by rw [e]; rfl))
    have n2 : ¬ ((Value.slice ca nk cc).ownBlock = some gx ∨ gx = fg) := fun e => e.elim (fun e => Zs HOc.out HXf.out (by decide) e) (fun e => Zs HDf.out.fns HXf.out (by decide) (by rw [e]; rfl))
    have l2 : w8.cell? ⟨r, 2, none⟩ = some (.slice (some ⟨fg, 0, none⟩) n fc) := Zb _ _ 2 _ _ _ HDf.out.box
    have HSM : Hid (∀ w', Kept (fun q => (Value.slice ca nk cc).ownBlock = some q ∨ q = fg) w8 w' → w'.cell? ⟨r, 2, none⟩ = some (.slice (some ⟨fg, 0, none⟩) n fc) ∧ w'.cell? ⟨gx, 7, none⟩ = some (.int .i64 (k : Int)) ∧ w'.cell? ⟨gx, 8, none⟩ = some (.int .i64 a)) := fun w' hw => ⟨hw.cell l2 n1, hw.cell (Zb _ _ 7 _ _ _ HXf.out) n2, hw.cell (Zb _ _ 8 _ _ _ HXf.out) n2⟩
    obtain ⟨a6, m6, c6, w9, hr, hk5, q1, f1, hz5, hlo⟩ := HDf.out.cod (L0 := C0) (v := .slice ca nk cc) (X0 := gs.map Yj) (k := f'.code.length) (xs := Zn f'.code) HC0.out.1 hcx (by rw [HC0.out.2, List.length_map]) (k : Int) a (by rw [← HNK.out]; omega) fg n fc rfl (gs.length * 4 + 3) (by
     show (Zw (gs ++ [f']) CV)[_]? = _
     rw [HC0.out.1, Zal (gs ++ [f']) (C0 ++ [Value.slice ca nk cc]) gs.length f' (Value.slice ca nk cc) (Zl _ _) (by rw [← HC0.out.2]; exact Zl _ _) 3 (by omega)]
     rfl)
    have HR := Za hr
    have HDg : Hid (DrZ w0 (w9.setCell ⟨fg, gs.length * 4 + 3, none⟩ (.slice a6 m6 c6)) r (shR ⟨R.mem, R.sized, R.data, gs ++ [Xh f' (k : Int) a], (Zde R gs f').ws⟩ (C0 ++ [.slice a6 m6 c6]) LV' PV' dv (.slice (some ⟨fg, 0, none⟩) n fc) nv (.slice (some ⟨lr, 0, none⟩) n lvc) (.slice (some ⟨pr, 0, none⟩) n pvc) wv)) := by
     have e := Zo5 (Zde R gs f') gs f' C0 LV' PV' (.slice ca nk cc) (.slice a6 m6 c6) dv (.slice (some ⟨fg, 0, none⟩) n fc) nv (.slice (some ⟨lr, 0, none⟩) n lvc) (.slice (some ⟨pr, 0, none⟩) n pvc) wv (k : Int) a HC0.out.2 rfl
     show DrZ _ _ _ _
     rw [← HC0.out.1] at e
     exact e ▸ hz5
    rw [HGS.out] at q1 f1 HDg
    have HK5 := Za (hk5.mono (T := fun q => (Value.slice ca nk cc).ownBlock = some q ∨ q = fg) (fun _ _ e => .inl e))
    have HK6 := Za (HK5.out.setCell (p := ⟨fg, m * 4 + 3, none⟩) (.inr (.inr rfl)) (.slice a6 m6 c6))
    have HFI : Hid (Zdq w0 r (Zbl R ln ⟨4, ls, ⟨#[]⟩, 0, 0, 0, ⟨#[]⟩, (k : Int), a, ⟨#[]⟩, false⟩ gs f) (.returned (.int .i64 0)) (w9.setCell ⟨fg, m * 4 + 3, none⟩ (.slice a6 m6 c6))) := ⟨HDg.out.kept, .inl ⟨_, HE.out, rfl, _, _, _, _, _, _, _, _, _, HDg.out⟩⟩
    clear hr hk5 hz5 hlo n1 n2 l2 hcx HOc HDg HE HXf
    iterate 4
     refine tkn (v := ?_) 0 rfl ?_ ?_; rotate_left
     ·intro w hSw; go_simp; try with_reducible rfl
     try simp only [Act.put, tdy]
    iterate 1
     refine tkn (v := ?_) 4 rfl ?_ ?_; rotate_left
     ·intro w hSw; obtain ⟨s1, s2, s3⟩ := HSM.out w hSw; go_simp; try with_reducible rfl
     try simp only [Act.put, tdy]
    iterate 5
     refine tkn (v := ?_) 5 rfl ?_ ?_; rotate_left
     ·intro w hSw; go_simp; try with_reducible rfl
     try simp only [Act.put, tdy]
    iterate 1
     refine tkn (v := ?_) 10 rfl ?_ ?_; rotate_left
     ·intro w hSw; obtain ⟨s1, s2, s3⟩ := HSM.out w hSw; go_simp; try with_reducible rfl
     try simp only [Act.put, tdy]
    iterate 3
     refine tkn (v := ?_) 11 rfl ?_ ?_; rotate_left
     ·intro w hSw; go_simp; try with_reducible rfl
     try simp only [Act.put, tdy]
    iterate 1
     refine tkn (v := ?_) 15 rfl ?_ ?_; rotate_left
     ·intro w hSw; go_simp; try with_reducible rfl
     try simp only [Act.put, tdy]
    iterate 1
     refine tkn (v := ?_) 16 rfl ?_ ?_; rotate_left
     ·intro w hSw; obtain ⟨s1, s2, s3⟩ := HSM.out w hSw; go_simp; try with_reducible rfl
     try simp only [Act.put, tdy]
    iterate 1
     refine tkn (v := ?_) 17 rfl ?_ ?_; rotate_left
     ·intro w hSw; go_simp; try with_reducible rfl
     try simp only [Act.put, tdy]
    iterate 1
     refine tkn (v := ?_) 18 rfl ?_ ?_; rotate_left
     ·intro w hSw; obtain ⟨s1, s2, s3⟩ := HSM.out w hSw; go_simp; try with_reducible rfl
     try simp only [Act.put, tdy]
    iterate 1
     refine tkn (v := ?_) 19 rfl ?_ ?_; rotate_left
     ·intro w hSw; go_simp; try with_reducible rfl
     try simp only [Act.put, tdy]
    refine (fun (hfin3 : ?G3) => ?main3) ?fin3
    case main3 =>
     refine wpAnyH_ready (rs := [14, 20]) (by kernel_rfl) (by simp) ?_
     refine AllReadyH.cons rfl (fun K hK => ?_) (AllReadyH.cons rfl (fun K hK => ?_) AllReadyH.nil)
     ·have l1 := l0
      go_simp
      refine hK.out _ _ qh (fun qh => ?_)
      clear hK K
      try simp only [Act.put, tdy]
      clear l1
      refine rdy 20 rfl (fun K hK => ?_)
      go_simp
      refine hK.out _ _ (qh.alloc _) (fun qh => ?_)
      clear hK K
      try simp only [Act.put, tdy]
      refine rdy 21 rfl (fun K hK => ?_)
      refine Zm rfl (.tmp 226) (.tmp 232) 76 76 rfl _ _ rfl rfl (.slice a6 m6 c6) w9 HR.out ?_
      refine hK.out _ _ HK5.out (fun qh => ?_)
      clear hK K
      try simp only [Act.put, tdy]
      iterate 2
       refine tkn (v := ?_) 22 rfl ?_ ?_; rotate_left
       ·intro w hSw; go_simp; try with_reducible rfl
       try simp only [Act.put, tdy]
      refine rdy 24 rfl (fun K hK => ?_)
      go_simp
      refine hK.out _ _ HK6.out (fun qh => ?_)
      clear hK K
      try simp only [Act.put, tdy]
      refine wpAnyH_done (by kernel_rfl) ?_ _
      exact hfin3
     ·go_simp
      refine hK.out _ _ (qh.alloc _) (fun qh => ?_)
      clear hK K
      try simp only [Act.put, tdy]
      have l1 : (w8.alloc (.cells #[.int .i64 (k : Int), .int .i64 a] 75)).cell? ⟨fg, m * 4 + 3, none⟩ = some (.slice ca nk cc) := ((Kept.refl nF w8).alloc _).cell l0 id
      refine rdy 14 rfl (fun K hK => ?_)
      go_simp
      refine hK.out _ _ qh (fun qh => ?_)
      clear hK K
      try simp only [Act.put, tdy]
      clear l1
      refine rdy 21 rfl (fun K hK => ?_)
      refine Zm rfl (.tmp 226) (.tmp 232) 76 76 rfl _ _ rfl rfl (.slice a6 m6 c6) w9 HR.out ?_
      refine hK.out _ _ HK5.out (fun qh => ?_)
      clear hK K
      try simp only [Act.put, tdy]
      iterate 2
       refine tkn (v := ?_) 22 rfl ?_ ?_; rotate_left
       ·intro w hSw; go_simp; try with_reducible rfl
       try simp only [Act.put, tdy]
      refine rdy 24 rfl (fun K hK => ?_)
      go_simp
      refine hK.out _ _ HK6.out (fun qh => ?_)
      clear hK K
      try simp only [Act.put, tdy]
      refine wpAnyH_done (by kernel_rfl) ?_ _
      exact hfin3
    clear l0 q1 f1 HSM HR HK5 HK6 qh HDf
    go_wp2
    go_ret
    exact HFI.out
   ·have HWD := Za hw
    have hwe : wd.toList.isEmpty = false := by
     cases e : wd.toList.isEmpty with
     | false => rfl
     | true => exact absurd (Zei (a := wd) (b := ⟨#[]⟩) (by rw [List.isEmpty_iff.1 e]; simp [ByteArray.toList, ByteArray.toList.loop, ByteArray.size])) hw
    clear hw HLd
    go_upto_region 30 with fail
    have hkd : Kept nF wr wr.drew := (Kept.refl _ _).drew
    have HDf := Za (HDd.out.same hkd)
    have HXf := Za (Zc hkd HXd.out id)
    have zy := hkd.cell y1 id
    have l2 : wr.drew.cell? ⟨r, 2, none⟩ = some (.slice (some ⟨fg, 0, none⟩) n fc) := Zb _ _ 2 _ _ _ HDf.out.box
    clear HDd HXd y1 hkd b0 b1 b2 b3 b4 b5 b6 b7 b8 b9 b10 bf7 bf8 bf9
    refine wp_region_held_drew (S := fun w' => Kept (fun q => wv.ownBlock = some q ∨ q = r) wr.drew w' ∧ w'.cell? ⟨r, 2, none⟩ = some (.slice (some ⟨fg, 0, none⟩) n fc)) (by kernel_rfl) ⟨Kept.refl _ _, l2⟩ (fun qh => ?_)
    generalize wr.drew = w8 at *
    have n2 : ¬ (wv.ownBlock = some gx ∨ gx = r) := fun e => e.elim (fun e => Zs HDf.out.wts HXf.out (by decide) e) (fun e => Xi HXf.out HDf.out.box (by decide) e)
    have n4 : ¬ (wv.ownBlock = some fg ∨ fg = r) := fun e => e.elim (Zce HDf.out.wts HDf.out.fns (by decide) fg · rfl) (fun e => HDf.out.not_own HDf.out.fns (by decide) (by rw [← e]; rfl))
    have HSM : Hid (∀ w', (Kept (fun q => wv.ownBlock = some q ∨ q = r) w8 w' ∧ w'.cell? ⟨r, 2, none⟩ = some (.slice (some ⟨fg, 0, none⟩) n fc)) → w'.cell? ⟨r, 2, none⟩ = some (.slice (some ⟨fg, 0, none⟩) n fc) ∧ w'.cell? ⟨gx, 7, none⟩ = some (.int .i64 (k : Int)) ∧ w'.cell? ⟨gx, 9, none⟩ = some (.string wd) ∧ w'.cell? ⟨fg, m * 4 + 3, none⟩ = some (.slice ca nk cc)) := fun w' hw => ⟨hw.2, hw.1.cell (Zb _ _ 7 _ _ _ HXf.out) n2, hw.1.cell (Zb _ _ 9 _ _ _ HXf.out) n2, hw.1.cell zy n4⟩
    have HOPR := Za (Zcb w8 k hk46)
    obtain ⟨jp, hjp⟩ := nmd (kix k)
    rw [← hjp] at HOPR
    have hjpI : (jp : Int) ≤ 6 := by have := (Zen k hk46).1; omega
    have HJP := Za hjp
    clear hjp
    have l0 : w8.cell? ⟨r, 7, none⟩ = some wv := Zb _ _ 7 _ _ _ HDf.out.box
    obtain ⟨a5, m5, c5, w9, hr, hk5, hb5, hz5⟩ := HDf.out.pushW (m : Int) (nk : Int) ln wd ((jp : Int) == 3) (by show R.ws.length ≤ _; have := HBB.out.2.2; omega)
    have HWT : Hid (Zf7 gs.length f' ln (k : Int) wd = [⟨ln, m, nk, wd, ((jp : Int) == 3)⟩]) := by
     show _ = _
     unfold Zf7
     rw [if_neg HWD.out, ← HNK.out, HGS.out, show ((k : Int).toNat) = k from rfl, ← HJP.out]
     have e : decide (jp = 3) = ((jp : Int) == 3) := by
      rw [Bool.eq_iff_iff]
      simp
      omega
     rw [e]
    have HE : Hid (Zbl R ln ⟨4, ls, ⟨#[]⟩, 0, 0, 0, ⟨#[]⟩, (k : Int), a, wd, false⟩ gs f = .good ⟨R.mem, R.sized, R.data, gs ++ [Xh f' (k : Int) a], (⟨R.mem, R.sized, R.data, gs ++ [f'], R.ws ++ [⟨ln, m, nk, wd, ((jp : Int) == 3)⟩]⟩ : Rdr).ws⟩) := by
     show _ = _
     unfold Zbl
     simp only
     rw [HLE.out]
     simp only
     rw [if_neg (by simp), if_neg hop0, HWT.out]
    have HDt : Hid (DrZ w0 (w9.setCell ⟨r, 7, none⟩ (.slice a5 m5 c5)) r (shR ⟨R.mem, R.sized, R.data, gs ++ [f'], R.ws ++ [⟨ln, m, nk, wd, ((jp : Int) == 3)⟩]⟩ CV LV' PV' dv (.slice (some ⟨fg, 0, none⟩) n fc) nv (.slice (some ⟨lr, 0, none⟩) n lvc) (.slice (some ⟨pr, 0, none⟩) n pvc) (.slice a5 m5 c5))) := by
     have e := Zuo (Zde R gs f') CV LV' PV' dv (.slice (some ⟨fg, 0, none⟩) n fc) nv (.slice (some ⟨lr, 0, none⟩) n lvc) (.slice (some ⟨pr, 0, none⟩) n pvc) wv (.slice a5 m5 c5) ⟨ln, m, nk, wd, ((jp : Int) == 3)⟩
     show DrZ _ _ _ _
     exact e ▸ hz5
    have hn5 : Kept (fun q => wv.ownBlock = some q ∨ q = r) w8 w9 := hk5.mono (fun _ _ e => .inl e)
    have HK5 : Hid (Kept (fun q => wv.ownBlock = some q ∨ q = r) w8 w9 ∧ w9.cell? ⟨r, 2, none⟩ = some (.slice (some ⟨fg, 0, none⟩) n fc)) := ⟨hn5, Zb _ _ 2 _ _ _ hb5⟩
    have HK6 : Hid (Kept (fun q => wv.ownBlock = some q ∨ q = r) w8 (w9.setCell ⟨r, 7, none⟩ (.slice a5 m5 c5)) ∧ (w9.setCell ⟨r, 7, none⟩ (.slice a5 m5 c5)).cell? ⟨r, 2, none⟩ = some (.slice (some ⟨fg, 0, none⟩) n fc)) := ⟨hn5.setCell (p := ⟨r, 7, none⟩) (.inr (.inr rfl)) _, Zb _ _ 2 _ _ _ HDt.out.box⟩
    have HXt := Za (Zc HK6.out.1 HXf.out n2)
    have yt := HK6.out.1.cell zy n4
    have HR : Hid ((Builtin.append_ #[61, 61] 61 #[wv, .slice (some ⟨w8.heap.size, 0, none⟩) 1 1]).run Tryz.prog (w8.alloc (.cells #[.int .i64 (m : Int), .int .i64 (nk : Int), .int .i64 ln, .string wd, .bool ((jp : Int) == 3)] 71)) = .ok (.slice a5 m5 c5) w9) := hr
    have q1 : w9.cell? ⟨r, 7, none⟩ = some wv := Zb _ _ 7 _ _ _ hb5
    have f1 := Ze _ _ 7 _ _ hb5
    obtain ⟨wa, wc, hwv⟩ := Zd HDf.out.wts
    have hwv : wv = .slice wa R.ws.length wc := hwv
    obtain ⟨nw, hnw⟩ := nmd (R.ws.length)
    rw [← hnw] at hwv
    subst hwv
    clear hr hk5 hb5 hz5 hn5 n2 n4 zy l2 hnw HDf HXf
    iterate 4
     refine tkn (v := ?_) 0 rfl ?_ ?_; rotate_left
     ·intro w hSw; go_simp; try with_reducible rfl
     try simp only [Act.put, tdy]
    iterate 5
     refine tkn (v := ?_) 5 rfl ?_ ?_; rotate_left
     ·intro w hSw; go_simp; try with_reducible rfl
     try simp only [Act.put, tdy]
    iterate 1
     refine tkn (v := ?_) 10 rfl ?_ ?_; rotate_left
     ·intro w hSw; obtain ⟨s1, s2, s3, s4⟩ := HSM.out w hSw; go_simp; try with_reducible rfl
     try simp only [Act.put, tdy]
    iterate 3
     refine tkn (v := ?_) 11 rfl ?_ ?_; rotate_left
     ·intro w hSw; go_simp; try with_reducible rfl
     try simp only [Act.put, tdy]
    iterate 1
     refine tkn (v := ?_) 14 rfl ?_ ?_; rotate_left
     ·intro w hSw; obtain ⟨s1, s2, s3, s4⟩ := HSM.out w hSw; go_simp; try with_reducible rfl
     try simp only [Act.put, tdy]
    iterate 1
     refine tkn (v := ?_) 15 rfl ?_ ?_; rotate_left
     ·intro w hSw; go_simp; try with_reducible rfl
     try simp only [Act.put, tdy]
    iterate 2
     refine tkn (v := ?_) 16 rfl ?_ ?_; rotate_left
     ·intro w hSw; go_simp; try with_reducible rfl
     try simp only [Act.put, tdy]
    iterate 1
     refine tkn (v := ?_) 18 rfl ?_ ?_; rotate_left
     ·intro w hSw; obtain ⟨s1, s2, s3, s4⟩ := HSM.out w hSw; go_simp; try with_reducible rfl
     try simp only [Act.put, tdy]
    iterate 1
     refine tkn (v := ?_) 19 rfl ?_ ?_; rotate_left
     ·intro w hSw; go_simp; try with_reducible rfl
     try simp only [Act.put, tdy]
    iterate 1
     refine tkn (v := ?_) 20 rfl ?_ ?_; rotate_left
     ·intro w hSw; obtain ⟨s1, s2, s3, s4⟩ := HSM.out w hSw; go_simp; try with_reducible rfl
     try simp only [Act.put, tdy]
    refine (fun (hfin4 : ?G4) => ?main4) ?fin4
    case main4 =>
     refine wpAnyH_ready (rs := [4, 21]) (by kernel_rfl) (by simp) ?_
     refine AllReadyH.cons rfl (fun K hK => ?_) (AllReadyH.cons rfl (fun K hK => ?_) AllReadyH.nil)
     ·have l1 := l0
      go_simp
      refine hK.out _ _ qh (fun qh => ?_)
      clear hK K
      try simp only [Act.put, tdy]
      clear l1
      refine rdy 21 rfl (fun K hK => ?_)
      go_simp
      refine HOPR.out.mono ?_
      rintro e w4 ⟨rfl, hw⟩
      have hw := hw.symm
      subst hw
      refine hK.out _ _ qh (fun qh => ?_)
      clear hK K
      try simp only [Act.put, tdy]
      iterate 2
       refine tkn (v := ?_) 22 rfl ?_ ?_; rotate_left
       ·intro w hSw; go_simp; try with_reducible rfl
       try simp only [Act.put, tdy]
      refine rdy 24 rfl (fun K hK => ?_)
      go_simp
      refine hK.out _ _ ⟨qh.1.alloc _, ((Kept.refl nF w8).alloc _).cell qh.2 id⟩ (fun qh => ?_)
      clear hK K
      try simp only [Act.put, tdy]
      refine rdy 25 rfl (fun K hK => ?_)
      refine Zm rfl (.tmp 188) (.tmp 208) 61 61 rfl _ _ rfl rfl (.slice a5 m5 c5) w9 HR.out ?_
      refine hK.out _ _ HK5.out (fun qh => ?_)
      clear hK K
      try simp only [Act.put, tdy]
      iterate 2
       refine tkn (v := ?_) 26 rfl ?_ ?_; rotate_left
       ·intro w hSw; go_simp; try with_reducible rfl
       try simp only [Act.put, tdy]
      refine rdy 28 rfl (fun K hK => ?_)
      go_simp
      refine hK.out _ _ HK6.out (fun qh => ?_)
      clear hK K
      try simp only [Act.put, tdy]
      refine wpAnyH_done (by kernel_rfl) ?_ _
      exact hfin4
     ·go_simp
      refine HOPR.out.mono ?_
      rintro e w4 ⟨rfl, hw⟩
      have hw := hw.symm
      subst hw
      refine hK.out _ _ qh (fun qh => ?_)
      clear hK K
      try simp only [Act.put, tdy]
      iterate 2
       refine tkn (v := ?_) 22 rfl ?_ ?_; rotate_left
       ·intro w hSw; go_simp; try with_reducible rfl
       try simp only [Act.put, tdy]
      refine wpAnyH_ready (rs := [4, 24]) (by kernel_rfl) (by simp) ?_
      refine AllReadyH.cons rfl (fun K hK => ?_) (AllReadyH.cons rfl (fun K hK => ?_) AllReadyH.nil)
      ·have l1 := l0
       go_simp
       refine hK.out _ _ qh (fun qh => ?_)
       clear hK K
       try simp only [Act.put, tdy]
       clear l1
       refine rdy 24 rfl (fun K hK => ?_)
       go_simp
       refine hK.out _ _ ⟨qh.1.alloc _, ((Kept.refl nF w8).alloc _).cell qh.2 id⟩ (fun qh => ?_)
       clear hK K
       try simp only [Act.put, tdy]
       refine rdy 25 rfl (fun K hK => ?_)
       refine Zm rfl (.tmp 188) (.tmp 208) 61 61 rfl _ _ rfl rfl (.slice a5 m5 c5) w9 HR.out ?_
       refine hK.out _ _ HK5.out (fun qh => ?_)
       clear hK K
       try simp only [Act.put, tdy]
       iterate 2
        refine tkn (v := ?_) 26 rfl ?_ ?_; rotate_left
        ·intro w hSw; go_simp; try with_reducible rfl
        try simp only [Act.put, tdy]
       refine rdy 28 rfl (fun K hK => ?_)
       go_simp
       refine hK.out _ _ HK6.out (fun qh => ?_)
       clear hK K
       try simp only [Act.put, tdy]
       refine wpAnyH_done (by kernel_rfl) ?_ _
       exact hfin4
      ·go_simp
       refine hK.out _ _ ⟨qh.1.alloc _, ((Kept.refl nF w8).alloc _).cell qh.2 id⟩ (fun qh => ?_)
       clear hK K
       try simp only [Act.put, tdy]
       have l1 : (w8.alloc (.cells #[.int .i64 (m : Int), .int .i64 (nk : Int), .int .i64 ln, .string wd, .bool ((jp : Int) == 3)] 71)).cell? ⟨r, 7, none⟩ = some (.slice wa nw wc) := ((Kept.refl nF w8).alloc _).cell l0 id
       refine rdy 4 rfl (fun K hK => ?_)
       go_simp
       refine hK.out _ _ qh (fun qh => ?_)
       clear hK K
       try simp only [Act.put, tdy]
       clear l1
       refine rdy 25 rfl (fun K hK => ?_)
       refine Zm rfl (.tmp 188) (.tmp 208) 61 61 rfl _ _ rfl rfl (.slice a5 m5 c5) w9 HR.out ?_
       refine hK.out _ _ HK5.out (fun qh => ?_)
       clear hK K
       try simp only [Act.put, tdy]
       iterate 2
        refine tkn (v := ?_) 26 rfl ?_ ?_; rotate_left
        ·intro w hSw; go_simp; try with_reducible rfl
        try simp only [Act.put, tdy]
       refine rdy 28 rfl (fun K hK => ?_)
       go_simp
       refine hK.out _ _ HK6.out (fun qh => ?_)
       clear hK K
       try simp only [Act.put, tdy]
       refine wpAnyH_done (by kernel_rfl) ?_ _
       exact hfin4
    clear l0 q1 f1 HSM HR HK5 HK6 qh HOPR
    generalize w9.setCell ⟨r, 7, none⟩ (.slice a5 m5 c5) = w10 at *
    obtain ⟨⟨b0, b1, b2, b3, b4, b5, b6, b7, b8, b9, b10⟩, bf7, bf8, bf9⟩ := Zq HXt.out
    go_upto_region 31 with fail
    have hkd : Kept nF w10 w10.drew := (Kept.refl _ _).drew
    have HDf := Za (HDt.out.same hkd)
    have HXf := Za (Zc hkd HXt.out id)
    have l0 := hkd.cell yt id
    clear HDt HXt yt hkd b0 b1 b2 b3 b4 b5 b6 b7 b8 b9 b10 bf7 bf8 bf9
    refine wp_region_held_drew (S := fun w' => Kept (fun q => (Value.slice ca nk cc).ownBlock = some q ∨ q = fg) w10.drew w') (by kernel_rfl) (Kept.refl _ _) (fun qh => ?_)
    generalize w10.drew = w8 at *
    have hcx : (gs ++ [f']).map Yj = gs.map Yj ++ [(f'.code.length, Zn f'.code)] := by rw [List.map_append]; rfl
    have HOc : Hid (w8.ownsRow w0.heap.size 75 2 (.slice ca nk cc) f'.code.length (Zn f'.code)) := HDf.out.code.row gs.length _ (f'.code.length, Zn f'.code) (by show CV[gs.length]? = _; rw [HC0.out.1, ← HC0.out.2]; exact Zl _ _) (by show ((gs ++ [f']).map Yj)[gs.length]? = _; rw [hcx]; have := Zl (gs.map Yj) (f'.code.length, Zn f'.code); rw [List.length_map] at this; exact this)
    have n1 : ¬ ((Value.slice ca nk cc).ownBlock = some r ∨ r = fg) := fun e => e.elim (HDf.out.not_own HOc.out (by decide)) (fun e => HDf.out.not_own HDf.out.fns (by decide) (by rw [e]; rfl))
    have n2 : ¬ ((Value.slice ca nk cc).ownBlock = some gx ∨ gx = fg) := fun e => e.elim (fun e => Zs HOc.out HXf.out (by decide) e) (fun e => Zs HDf.out.fns HXf.out (by decide) (by rw [e]; rfl))
    have l2 : w8.cell? ⟨r, 2, none⟩ = some (.slice (some ⟨fg, 0, none⟩) n fc) := Zb _ _ 2 _ _ _ HDf.out.box
    have HSM : Hid (∀ w', Kept (fun q => (Value.slice ca nk cc).ownBlock = some q ∨ q = fg) w8 w' → w'.cell? ⟨r, 2, none⟩ = some (.slice (some ⟨fg, 0, none⟩) n fc) ∧ w'.cell? ⟨gx, 7, none⟩ = some (.int .i64 (k : Int)) ∧ w'.cell? ⟨gx, 8, none⟩ = some (.int .i64 a)) := fun w' hw => ⟨hw.cell l2 n1, hw.cell (Zb _ _ 7 _ _ _ HXf.out) n2, hw.cell (Zb _ _ 8 _ _ _ HXf.out) n2⟩
    obtain ⟨a6, m6, c6, w9, hr, hk5, q1, f1, hz5, hlo⟩ := HDf.out.cod (L0 := C0) (v := .slice ca nk cc) (X0 := gs.map Yj) (k := f'.code.length) (xs := Zn f'.code) HC0.out.1 hcx (by rw [HC0.out.2, List.length_map]) (k : Int) a (by rw [← HNK.out]; omega) fg n fc rfl (gs.length * 4 + 3) (by
     show (Zw (gs ++ [f']) CV)[_]? = _
     rw [HC0.out.1, Zal (gs ++ [f']) (C0 ++ [Value.slice ca nk cc]) gs.length f' (Value.slice ca nk cc) (Zl _ _) (by rw [← HC0.out.2]; exact Zl _ _) 3 (by omega)]
     rfl)
    have HR := Za hr
    have HDg : Hid (DrZ w0 (w9.setCell ⟨fg, gs.length * 4 + 3, none⟩ (.slice a6 m6 c6)) r (shR ⟨R.mem, R.sized, R.data, gs ++ [Xh f' (k : Int) a], (⟨R.mem, R.sized, R.data, gs ++ [f'], R.ws ++ [⟨ln, m, nk, wd, ((jp : Int) == 3)⟩]⟩ : Rdr).ws⟩ (C0 ++ [.slice a6 m6 c6]) LV' PV' dv (.slice (some ⟨fg, 0, none⟩) n fc) nv (.slice (some ⟨lr, 0, none⟩) n lvc) (.slice (some ⟨pr, 0, none⟩) n pvc) (.slice a5 m5 c5))) := by
     have e := Zo5 (⟨R.mem, R.sized, R.data, gs ++ [f'], R.ws ++ [⟨ln, m, nk, wd, ((jp : Int) == 3)⟩]⟩ : Rdr) gs f' C0 LV' PV' (.slice ca nk cc) (.slice a6 m6 c6) dv (.slice (some ⟨fg, 0, none⟩) n fc) nv (.slice (some ⟨lr, 0, none⟩) n lvc) (.slice (some ⟨pr, 0, none⟩) n pvc) (.slice a5 m5 c5) (k : Int) a HC0.out.2 rfl
     show DrZ _ _ _ _
     rw [← HC0.out.1] at e
     exact e ▸ hz5
    rw [HGS.out] at q1 f1 HDg
    have HK5 := Za (hk5.mono (T := fun q => (Value.slice ca nk cc).ownBlock = some q ∨ q = fg) (fun _ _ e => .inl e))
    have HK6 := Za (HK5.out.setCell (p := ⟨fg, m * 4 + 3, none⟩) (.inr (.inr rfl)) (.slice a6 m6 c6))
    have HFI : Hid (Zdq w0 r (Zbl R ln ⟨4, ls, ⟨#[]⟩, 0, 0, 0, ⟨#[]⟩, (k : Int), a, wd, false⟩ gs f) (.returned (.int .i64 0)) (w9.setCell ⟨fg, m * 4 + 3, none⟩ (.slice a6 m6 c6))) := ⟨HDg.out.kept, .inl ⟨_, HE.out, rfl, _, _, _, _, _, _, _, _, _, HDg.out⟩⟩
    clear hr hk5 hz5 hlo n1 n2 l2 hcx HOc HDg HE HXf
    iterate 4
     refine tkn (v := ?_) 0 rfl ?_ ?_; rotate_left
     ·intro w hSw; go_simp; try with_reducible rfl
     try simp only [Act.put, tdy]
    iterate 1
     refine tkn (v := ?_) 4 rfl ?_ ?_; rotate_left
     ·intro w hSw; obtain ⟨s1, s2, s3⟩ := HSM.out w hSw; go_simp; try with_reducible rfl
     try simp only [Act.put, tdy]
    iterate 5
     refine tkn (v := ?_) 5 rfl ?_ ?_; rotate_left
     ·intro w hSw; go_simp; try with_reducible rfl
     try simp only [Act.put, tdy]
    iterate 1
     refine tkn (v := ?_) 10 rfl ?_ ?_; rotate_left
     ·intro w hSw; obtain ⟨s1, s2, s3⟩ := HSM.out w hSw; go_simp; try with_reducible rfl
     try simp only [Act.put, tdy]
    iterate 3
     refine tkn (v := ?_) 11 rfl ?_ ?_; rotate_left
     ·intro w hSw; go_simp; try with_reducible rfl
     try simp only [Act.put, tdy]
    iterate 1
     refine tkn (v := ?_) 15 rfl ?_ ?_; rotate_left
     ·intro w hSw; go_simp; try with_reducible rfl
     try simp only [Act.put, tdy]
    iterate 1
     refine tkn (v := ?_) 16 rfl ?_ ?_; rotate_left
     ·intro w hSw; obtain ⟨s1, s2, s3⟩ := HSM.out w hSw; go_simp; try with_reducible rfl
     try simp only [Act.put, tdy]
    iterate 1
     refine tkn (v := ?_) 17 rfl ?_ ?_; rotate_left
     ·intro w hSw; go_simp; try with_reducible rfl
     try simp only [Act.put, tdy]
    iterate 1
     refine tkn (v := ?_) 18 rfl ?_ ?_; rotate_left
     ·intro w hSw; obtain ⟨s1, s2, s3⟩ := HSM.out w hSw; go_simp; try with_reducible rfl
     try simp only [Act.put, tdy]
    iterate 1
     refine tkn (v := ?_) 19 rfl ?_ ?_; rotate_left
     ·intro w hSw; go_simp; try with_reducible rfl
     try simp only [Act.put, tdy]
    refine (fun (hfin5 : ?G5) => ?main5) ?fin5
    case main5 =>
     refine wpAnyH_ready (rs := [14, 20]) (by kernel_rfl) (by simp) ?_
     refine AllReadyH.cons rfl (fun K hK => ?_) (AllReadyH.cons rfl (fun K hK => ?_) AllReadyH.nil)
     ·have l1 := l0
      go_simp
      refine hK.out _ _ qh (fun qh => ?_)
      clear hK K
      try simp only [Act.put, tdy]
      clear l1
      refine rdy 20 rfl (fun K hK => ?_)
      go_simp
      refine hK.out _ _ (qh.alloc _) (fun qh => ?_)
      clear hK K
      try simp only [Act.put, tdy]
      refine rdy 21 rfl (fun K hK => ?_)
      refine Zm rfl (.tmp 226) (.tmp 232) 76 76 rfl _ _ rfl rfl (.slice a6 m6 c6) w9 HR.out ?_
      refine hK.out _ _ HK5.out (fun qh => ?_)
      clear hK K
      try simp only [Act.put, tdy]
      iterate 2
       refine tkn (v := ?_) 22 rfl ?_ ?_; rotate_left
       ·intro w hSw; go_simp; try with_reducible rfl
       try simp only [Act.put, tdy]
      refine rdy 24 rfl (fun K hK => ?_)
      go_simp
      refine hK.out _ _ HK6.out (fun qh => ?_)
      clear hK K
      try simp only [Act.put, tdy]
      refine wpAnyH_done (by kernel_rfl) ?_ _
      exact hfin5
     ·go_simp
      refine hK.out _ _ (qh.alloc _) (fun qh => ?_)
      clear hK K
      try simp only [Act.put, tdy]
      have l1 : (w8.alloc (.cells #[.int .i64 (k : Int), .int .i64 a] 75)).cell? ⟨fg, m * 4 + 3, none⟩ = some (.slice ca nk cc) := ((Kept.refl nF w8).alloc _).cell l0 id
      refine rdy 14 rfl (fun K hK => ?_)
      go_simp
      refine hK.out _ _ qh (fun qh => ?_)
      clear hK K
      try simp only [Act.put, tdy]
      clear l1
      refine rdy 21 rfl (fun K hK => ?_)
      refine Zm rfl (.tmp 226) (.tmp 232) 76 76 rfl _ _ rfl rfl (.slice a6 m6 c6) w9 HR.out ?_
      refine hK.out _ _ HK5.out (fun qh => ?_)
      clear hK K
      try simp only [Act.put, tdy]
      iterate 2
       refine tkn (v := ?_) 22 rfl ?_ ?_; rotate_left
       ·intro w hSw; go_simp; try with_reducible rfl
       try simp only [Act.put, tdy]
      refine rdy 24 rfl (fun K hK => ?_)
      go_simp
      refine hK.out _ _ HK6.out (fun qh => ?_)
      clear hK K
      try simp only [Act.put, tdy]
      refine wpAnyH_done (by kernel_rfl) ?_ _
      exact hfin5
    clear l0 q1 f1 HSM HR HK5 HK6 qh HDf
    go_wp2
    go_ret
    exact HFI.out
end Go.Proofs.YtgoabnehdmdikaaGreatDoor

import Derived.Test.YtgoabnehdmdikaaGreatDoorTLg30
import Derived.Test.YtgoabnehdmdikaaGreatDoorTLg31
set_option linter.unusedVariables false
set_option linter.unusedSimpArgs false
set_option maxRecDepth 100000
set_option maxHeartbeats 64000000
namespace Go.Proofs.YtgoabnehdmdikaaGreatDoor
open Go.RowKit
theorem Zg7 : ∀ (ws : List Wt) (i : Nat) (x : Wt), ws[i]? = some x → ∀ j, j < 5 → (Zbd ws)[i * 5 + j]? = (dwC x)[j]?
 | [], i, x, h, _, _ => by simp at h
 | y :: ws, 0, x, h, j, hj => by
  simp at h
  subst h
  have e : Zbd (y :: ws) = dwC y ++ Zbd ws := by simp [Zbd]
  rw [e, List.getElem?_append_left (by show 0 * 5 + j < 5; omega)]
  congr 1
  omega
 | y :: ws, i + 1, x, h, j, hj => by
  have e : Zbd (y :: ws) = dwC y ++ Zbd ws := by simp [Zbd]
  rw [e, List.getElem?_append_right (by show 5 ≤ (i + 1) * 5 + j; omega)]
  have : (i + 1) * 5 + j - (dwC y).length = i * 5 + j := by show (i + 1) * 5 + j - 5 = _; omega
  rw [this]
  exact Zg7 ws i x (by simpa using h) j hj
structure NthR (w0 w : World) (f : Fnc) (k fg lr pr : Nat) (cv lb pb : Value) : Prop where
 y1 : w.cell? ⟨fg, k * 4 + 3, none⟩ = some cv
 y2 : w.cell? ⟨lr, k, none⟩ = some lb
 y3 : w.cell? ⟨pr, k, none⟩ = some pb
 o1 : w.ownsRow w0.heap.size 75 2 cv f.code.length (Zn f.code)
 o2 : w.ownsRow w0.heap.size 9 1 lb f.ls.length (f.ls.map (fun x => Value.string x.1))
 o3 : w.ownsRow w0.heap.size 3 1 pb f.ls.length (f.ls.map (fun x => Value.int .i64 x.2))
theorem NthR.same {w0 w w' : World} {f : Fnc} {k fg lr pr : Nat} {cv lb pb : Value} (h : NthR w0 w f k fg lr pr cv lb pb) (hk : Kept nF w w') : NthR w0 w' f k fg lr pr cv lb pb :=
 ⟨hk.cell h.y1 id, hk.cell h.y2 id, hk.cell h.y3 id, hk.ownsRow h.o1 (fun _ _ f => f), hk.ownsRow h.o2 (fun _ _ f => f), hk.ownsRow h.o3 (fun _ _ f => f)⟩
theorem DrZ.nth {w0 w : World} {r : Nat} {R : Rdr} {CV LV PV : List Value} {dv fv nv lv pv wv : Value} (h : DrZ w0 w r (shR R CV LV PV dv fv nv lv pv wv)) {k : Nat} {f : Fnc} (hf : R.fs[k]? = some f) :
  ∃ fg fc lr lc pr pc c l p, fv = .slice (some ⟨fg, 0, none⟩) R.fs.length fc ∧ lv = .slice (some ⟨lr, 0, none⟩) R.fs.length lc ∧ pv = .slice (some ⟨pr, 0, none⟩) R.fs.length pc ∧ CV[k]? = some c ∧ NthR w0 w f k fg lr pr c l p := by
 have hk := (List.getElem?_eq_some_iff.1 hf).1
 have hF : w.ownsRow w0.heap.size 78 4 fv R.fs.length (Zw R.fs CV) := h.fns
 have hL : w.ownsRow w0.heap.size 37 1 lv R.fs.length LV := by rw [← h.llen]; exact h.labs
 have hP : w.ownsRow w0.heap.size 73 1 pv R.fs.length PV := by rw [← h.plen]; exact h.plcs
 obtain ⟨fg, fc, c1, hfv, _, h1⟩ := Yw hF (by omega)
 obtain ⟨lr, lc, c2, hlv, _, h2⟩ := Yw hL (by omega)
 obtain ⟨pr, pc, c3, hpv, _, h3⟩ := Yw hP (by omega)
 obtain ⟨c, hc⟩ : ∃ c, CV[k]? = some c := ⟨_, List.getElem?_eq_getElem (by rw [h.clen]; exact hk)⟩
 obtain ⟨l, hl⟩ : ∃ c, LV[k]? = some c := ⟨_, List.getElem?_eq_getElem (by rw [h.llen]; exact hk)⟩
 obtain ⟨p, hp⟩ : ∃ c, PV[k]? = some c := ⟨_, List.getElem?_eq_getElem (by rw [h.plen]; exact hk)⟩
 refine ⟨fg, fc, lr, lc, pr, pc, c, l, p, hfv, hlv, hpv, hc, ?_, ?_, ?_, ?_, ?_, ?_⟩
 ·have := hF.cells (g := fg) (by rw [hfv]; rfl) (k * 4 + 3) c (by rw [Zal R.fs CV k f c hf hc 3 (by omega)]; rfl)
  rw [Addr.add_lit, Nat.zero_add] at this
  exact this
 ·have := hL.cells (g := lr) (by rw [hlv]; rfl) k l hl
  rw [Addr.add_lit, Nat.zero_add] at this
  exact this
 ·have := hP.cells (g := pr) (by rw [hpv]; rfl) k p hp
  rw [Addr.add_lit, Nat.zero_add] at this
  exact this
 ·exact h.code.row k c (Yj f) hc (by show (R.fs.map Yj)[k]? = _; rw [List.getElem?_map, hf]; rfl)
 ·exact h.words.row (k + 1) l (Zbm f) (by show LV[k]? = some l; exact hl) (by show (R.fs.map Zbm)[k]? = some (Zbm f); rw [List.getElem?_map, hf]; rfl)
 ·exact h.plc.row k p (Zby f) hp (by show (R.fs.map Zby)[k]? = _; rw [List.getElem?_map, hf]; rfl)
def FB (fs : List Fnc) : Prop := ∀ f ∈ fs, f.Ok ∧ f.code.length ≤ 80000 ∧ f.ls.length ≤ 80000 ∧ ∀ x ∈ f.ls, 0 ≤ x.2
theorem FB.set {fs : List Fnc} (h : FB fs) (k p : Nat) {v : Int} (hv : I64 v) : FB (Yq fs k p v) := fun f hf => by
 have h1 := Zl7 (fun f hf => (h f hf).1) k p hv f hf
 cases hk : fs[k]? with
 | none =>
  unfold Yq at hf
  rw [hk] at hf
  exact ⟨h1, (h f hf).2⟩
 | some g =>
  rw [Zcl hk] at hf
  rcases List.mem_or_eq_of_mem_set hf with e | e
  ·exact ⟨h1, (h f e).2⟩
  ·have hg := (h g (List.mem_of_getElem? hk)).2
   refine ⟨h1, ?_, ?_, ?_⟩
   ·rw [e]
    show (g.code.set _ _).length ≤ _
    rw [List.length_set]
    exact hg.1
   ·rw [e]; exact hg.2.1
   ·rw [e]; exact hg.2.2
def Zkm (R : Rdr) : Int ⊕ List Fnc → (Int × Int) ⊕ Rdr
 | .inl ln => .inl (ln, 142)
 | .inr fs' => if Ya (pgG ⟨R.mem, R.sized, R.data, fs', R.ws⟩) = 0 then .inr ⟨R.mem, R.sized, R.data, fs', R.ws⟩ else .inl (0, Ya (pgG ⟨R.mem, R.sized, R.data, fs', R.ws⟩))
theorem DrZ.mono {w00 w0 w : World} {r : Nat} {s : Shp} (h : DrZ w0 w r s) (hk : Kept nF w00 w0) : DrZ w00 w r s :=
 ⟨⟨Zba h.data hk.size, Zba h.fns hk.size, h.code.mono hk.size, h.words.mono hk.size, Zba h.labs hk.size, Zba h.plcs hk.size, h.plc.mono hk.size, Zba h.wts hk.size⟩, h.box, hk.trans h.kept, Nat.le_trans hk.size h.lo⟩
theorem DrZ.chg {S : Nat → Prop} {t : TypeId} {w0 w w' : World} {r : Nat} {s : Shp} (h : DrZ w0 w r s) (hk : Kept S w w') (hc : Ch w S t) (hne : t ≠ 5 ∧ t ≠ 78 ∧ t ≠ 75 ∧ t ≠ 9 ∧ t ≠ 37 ∧ t ≠ 73 ∧ t ≠ 3 ∧ t ≠ 71) (h63 : t ≠ 63) (hS : ∀ q, S q → w0.heap.size ≤ q) : DrZ w0 w' r s :=
 ⟨h.toDrY.ch hk hc hne, Zah hk hc h.box h63, h.kept.step hk (fun q hq e => by have := hS q e; omega), h.lo⟩
def Zwb (o : (Int × Int) ⊕ Rdr) (w : World) (e : Ending) (w' : World) : Prop :=
 Kept nF w w' ∧ ((∃ ln er, o = .inl (ln, er) ∧ er ≠ 0 ∧ e = .returned (.tuple #[.agg #[.int .i64 0, .slice none 0 0, .slice none 0 0], .int .i64 er, .int .i64 ln])) ∨
  (∃ R' v, o = .inr R' ∧ e = .returned (.tuple #[v, .int .i64 0, .int .i64 0]) ∧ PgIs w' w'.heap.size v (pgG R')))
theorem Zx1 (D : ByteArray) (hD : D.size ≤ 9223372036854775807) (w : World) : Calls Tryz.prog 10 #[.string D] w (Zwb (Zb4 D.data.toList) w) := by
 obtain ⟨O, hO⟩ := nmd (Zb4 D.data.toList)
 rw [← hO]
 have HOO := Za hO
 have hka : Kept nF w (w.alloc (.cells #[.int .i64 0, .slice none 0 0, .slice none 0 0] 26)) := (Kept.refl _ _).alloc _
 have HX := Za (heap_alloc_new w (.cells #[.int .i64 0, .slice none 0 0, .slice none 0 0] 26))
 have HK := Za hka
 clear hO hka
 go_enter Tryz.func10, Tryz.ntmps10
 go_upto_region 1 with fail
 generalize w.alloc (.cells #[.int .i64 0, .slice none 0 0, .slice none 0 0] 26) = w1 at *
 obtain ⟨g2, hg2⟩ := nmd (w.heap.size)
 rw [← hg2] at HX ⊢
 have HG2 : Hid (w.heap.size ≤ g2) := by rw [hg2]; exact Nat.le_refl _
 clear hg2
 by_cases hs : 65536 < D.size
 ·have hsI : (65536 : Int) < (D.size : Int) := by omega
  have hE : O = .inl (0, 2) := by
   rw [HOO.out]
   unfold Zb4
   rw [if_pos (by rw [← Lib.size_eq]; exact hs)]
  have HE := Za hE
  clear hE HOO hs
  obtain ⟨c0, c1, c2, f0, f1, f2⟩ := Zx HX.out
  obtain ⟨hx, hkx⟩ := Zct w1 g2 26 _ _ _ (.int .i64 0) (.slice none 0 0) (.slice none 0 0) HX.out
  have HX2 := Za hx
  have HK2 := Za (HK.out.step hkx (fun q hq e => by have := HG2.out; omega))
  clear hx hkx
  go_wp2_with fail
  refine bodyPost_ret (v := .tuple #[.agg #[.int .i64 0, .slice none 0 0, .slice none 0 0], .int .i64 2, .int .i64 0]) ?_ rfl ⟨HK2.out, .inl ⟨0, 2, HE.out, by decide, rfl⟩⟩
  exact Zt (by rfl) _ _ g2 26 _ (0, 0) _ _ _ (by rfl) (by rfl) (by rfl) HX2.out Tryz.underlying26 rfl Zak
 have hsI : (D.size : Int) ≤ 65536 := by omega
 have HLN := Za (Zv3 D (by omega) w1)
 go_wp2_with fail
 refine HLN.out.mono ?_
 rintro e w2 ⟨lv, n, rfl, hn, ho, hk2⟩
 have HSZ : Hid (D.data.toList.length ≤ 65536) := by show _ ≤ 65536; rw [← Lib.size_eq]; omega
 have HOL : Hid (O = match Xp ⟨0, false, [], [], []⟩ 1 (Zv D.data.toList) with
  | .inl e => .inl e
  | .inr R => match Xg R.ws R.fs with
   | .inl ln => .inl (ln, 142)
   | .inr fs' => if Ya (pgG ⟨R.mem, R.sized, R.data, fs', R.ws⟩) = 0 then .inr ⟨R.mem, R.sized, R.data, fs', R.ws⟩ else .inl (0, Ya (pgG ⟨R.mem, R.sized, R.data, fs', R.ws⟩))) := by
  show O = _
  rw [HOO.out]
  unfold Zb4
  rw [if_neg (by have := HSZ.out; omega)]
  rfl
 have HN := Za hn
 have HO := Za ho
 have HX2 := Za (Zc hk2 HX.out id)
 have HK2 := Za (HK.out.trans hk2)
 have HG22 : Hid (g2 < w2.heap.size) := (Array.getElem?_eq_some_iff.1 HX2.out).1
 have hr0 := heap_alloc_new w2 (.cells #[.int .i64 0, .slice none 0 0, .slice none 0 0, .bool false, .slice none 0 0, .slice none 0 0, .slice none 0 0, .slice none 0 0] 63)
 have HD0 := Za (DrG.first (w0 := w2) hr0 ((Kept.refl _ _).alloc _) (Nat.le_refl _))
 have HL := Za (Zez D.data.toList)
 generalize D.data.toList = bs at *
 clear hn ho HX HK HOO HLN hk2 hr0
 go_upto_region 5 with fail
 generalize w2.alloc (.cells #[.int .i64 0, .slice none 0 0, .slice none 0 0, .bool false, .slice none 0 0, .slice none 0 0, .slice none 0 0, .slice none 0 0] 63) = w3 at *
 generalize w2.heap.size = r at *
 obtain ⟨la, lc, hlv⟩ := Zd HO.out
 subst hlv
 have hnI : (n : Int) ≤ 65537 := by have := HN.out; have := HL.out.1; have := HSZ.out; omega
 obtain ⟨G, hGd⟩ : ∃ G : (Int × Int) ⊕ Rdr → (Int × Int) ⊕ Rdr, G = fun o => match o with
  | .inl e => .inl e
  | .inr R => match Xg R.ws R.fs with
   | .inl ln => .inl (ln, 142)
   | .inr fs' => if Ya (pgG ⟨R.mem, R.sized, R.data, fs', R.ws⟩) = 0 then .inr ⟨R.mem, R.sized, R.data, fs', R.ws⟩ else .inl (0, Ya (pgG ⟨R.mem, R.sized, R.data, fs', R.ws⟩)) := ⟨_, rfl⟩
 have HGD := Za hGd
 have HOG : Hid (O = G (Xp ⟨0, false, [], [], []⟩ 1 (Zv bs))) := by
  show O = _
  rw [hGd]
  exact HOL.out
 clear hGd HOL hs
 go_wp2
 go_loopw [7] (fun iv wx => ∃ (i : Nat) (R : Rdr), iv = .int .i64 (i : Int) ∧ i ≤ n ∧ Hid (O = G (Xp R ((i : Int) + 1) ((Zv bs).drop i))) ∧ Hid (InvD R i (tot ((Zv bs).take i))) ∧ Hid (DrG w2 wx r R)) (fun iv _ => n - (intOf iv).toNat)
 case atStart => exact ⟨0, _, rfl, Nat.zero_le _, HOG, Zpb, HD0⟩
 case round =>
  clear HOG HD0
  obtain ⟨i, R, rfl, hin, HOI, HIV, HD⟩ := hrel
  by_cases hi : i < n
  ·have hiI : (i : Int) < (n : Int) := by omega
   obtain ⟨x, hx⟩ : ∃ x, (Zv bs)[i]? = some x := ⟨_, List.getElem?_eq_getElem (by have := HN.out; omega)⟩
   have HXI := Za hx
   have HKR : Hid (Kept nF w2 wr) := by
    obtain ⟨_, _, _, _, _, _, _, _, _, hZ⟩ := HD.out
    exact hZ.kept
   obtain ⟨lg, lc', cs, hlv, _, _⟩ := Yw HO.out (by omega)
   cases hlv
   have hxb : x.length ≤ 65536 := Nat.le_trans (HL.out.2 x (List.mem_of_getElem? hx)) HSZ.out
   have hcell : wr.cell? ⟨lg, i, none⟩ = some (.string (toB x)) := by
    have h9 := HO.out.cells (g := lg) rfl i (.string (toB x)) (by unfold labs; rw [List.getElem?_map, List.getElem?_map, hx]; rfl)
    rw [Addr.add_lit, Nat.zero_add] at h9
    exact HKR.out.cell h9 id
   have HSD : Hid (Calls Tryz.prog 21 #[.string (toB x)] wr (Zs8 x wr)) := by
    have h9 := Zxa (toB x) (by rw [Lib.size_eq]; simpa [toB] using hxb) wr
    rw [show (toB x).data.toList = x by simp [toB]] at h9
    exact h9
   have HXB := Za hxb
   clear hx hxb
   go_wp2_with fail
   refine HSD.out.mono ?_
   rintro e w4 ⟨xs, b, rfl, ⟨a5, n5, c5, hxl⟩, hk4, hcase⟩
   have HC := Za hcase
   have hka : Kept nF w4 (w4.alloc (.cells (ZC (.slice none 0 0) false) 66)) := (Kept.refl _ _).alloc _
   have hn4 := heap_alloc_new w4 (.cells (ZC (.slice none 0 0) false) 66)
   obtain ⟨hr5, hk5⟩ := Yh (w4.alloc (.cells (ZC (.slice none 0 0) false) 66)) w4.heap.size xs.cells _ 66 hn4 rfl
   have hk45 : Kept nF w4 ((w4.alloc (.cells (ZC (.slice none 0 0) false) 66)).setRow w4.heap.size xs.cells) := hka.step hk5 (fun q hq e => by omega)
   have HK5 := Za (hk4.trans hk45)
   have HX5 := Za hr5
   have HN4 := Za hn4
   have HXL := Za hxl
   have HSL : Hid (∀ y, SLis wr.heap.size w4 xs y → SLis wr.heap.size ((w4.alloc (.cells (ZC (.slice none 0 0) false) 66)).setRow w4.heap.size xs.cells) xs y) := fun y hy => ⟨hy.k, hy.nm, hy.n0, hy.n1, hy.n2, hy.dt, hy.op, hy.a, hy.wd, hy.big, Zi hk5 (Yx hn4) (hka.ownsRow hy.ls (fun _ _ f => f)) (by decide)⟩
   clear hcase hka hn4 hr5 hk5 hk45 hxl hk4 HSD hcell
   go_upto_region 9 with (refine wpList_store_row rfl 66 _ _ rfl w4.heap.size xs.cells rfl rfl 66 _ HN4.out Zp rfl (Ys xs a5 n5 c5 HXL.out) ?_)
   clear HN4 HXL
   generalize (w4.alloc (.cells (ZC (.slice none 0 0) false) 66)).setRow w4.heap.size xs.cells = w5 at *
   obtain ⟨gx, hgx⟩ := nmd (w4.heap.size)
   rw [← hgx] at HX5 ⊢
   clear hgx
   have HDS : Hid ((Zv bs).drop i = x :: (Zv bs).drop (i + 1)) := by
    obtain ⟨hi2, h9⟩ := List.getElem?_eq_some_iff.1 HXI.out
    rw [← h9]
    exact List.drop_eq_getElem_cons hi2
   have HXW := Za (Zc (HKR.out.trans HK5.out) HX2.out id)
   have HKW := Za (HK2.out.trans (HKR.out.trans HK5.out))
   cases b
   ·have HE : Hid (O = .inl ((i : Int) + 1, 141)) := by
     rcases HC.out with ⟨h, _⟩ | ⟨_, h⟩
     ·cases h
     show O = _
     rw [HOI.out, HDS.out, Xp, Zrp R _ h, HGD.out]
    clear HC HSL HX5
    obtain ⟨c0, c1, c2, f0, f1, f2⟩ := Zx HXW.out
    obtain ⟨hx, hkx⟩ := Zct w5 g2 26 _ _ _ (.int .i64 0) (.slice none 0 0) (.slice none 0 0) HXW.out
    have HX7 := Za hx
    have HK7 := Za (HKW.out.step hkx (fun q hq e => by have := HG2.out; omega))
    clear hx hkx
    go_wp2_with fail
    refine bodyPost_ret (v := .tuple #[.agg #[.int .i64 0, .slice none 0 0, .slice none 0 0], .int .i64 141, .int .i64 ((i : Int) + 1)]) ?_ rfl ⟨HK7.out, .inl ⟨_, 141, HE.out, by decide, rfl⟩⟩
    exact Zt (by rfl) _ _ g2 26 _ (0, 0) _ _ _ (by rfl) (by rfl) (by rfl) HX7.out Tryz.underlying26 rfl Zak
   obtain ⟨ps, ds, y, hc1, hs1, hy1, hsl⟩ : ∃ ps ds y, Yc x = some ps ∧ Sim ps ds ∧ Yt ds = some y ∧ SLis wr.heap.size w4 xs y := by
    rcases HC.out with ⟨_, h⟩ | ⟨h, _⟩
    ·exact h
    ·cases h
   have hsl5 := HSL.out y hsl
   obtain ⟨hsm1, hsm2⟩ := Zg5 hc1 hs1 hy1
   have hx65 := HXB.out
   obtain ⟨ht1, ht2⟩ := Zrz (Zv bs) i x HXI.out
   have htl := Zd1 bs
   have hsz := HSZ.out
   have hivs := HIV.out.inv
   have hn65 : n ≤ 65537 := by omega
   have HTK := Za (Zo9 HD.out HK5.out xs y hsl5 (by have := hivs.fs; omega) (fun f hf => ⟨by have := HIV.out.ls f hf; omega, by have := hivs.code f hf; omega⟩) (by have := hivs.ws; omega) (by have := hivs.data; omega) (by omega) (Zur hy1) ((i : Int) + 1))
   have HNX : Hid (∀ R', Yn R ((i : Int) + 1) y = .good R' → InvD R' (i + 1) (tot ((Zv bs).take (i + 1)))) := fun R' hR => by
    rw [ht1]
    exact Zpa HIV.out (by omega) hx65 hc1 hs1 hy1 hR
   have HLP : Hid (Xp R ((i : Int) + 1) (x :: (Zv bs).drop (i + 1)) = match Yn R ((i : Int) + 1) y with | .bad e => .inl ((i : Int) + 1, e) | .good R' => Xp R' ((i : Int) + 1 + 1) ((Zv bs).drop (i + 1))) := by
    show _ = _
    rw [Xp, Zin R _ hc1 hs1 hy1]
    cases Yn R ((i : Int) + 1) y <;> rfl
   clear hc1 hs1 hy1 hsl hsl5 hsm1 hsm2 hx65 ht1 ht2 htl hsz hivs HSL HC HXB HXI
   generalize Yn R ((i : Int) + 1) y = TD at *
   go_wp2_with (refine wpList_load_row rfl 66 _ rfl gx rfl 66 _ (0, 0) _ HX5.out Tryz.underlying66 rfl Zp ?_)
   refine HTK.out.mono ?_
   rintro e w6 ⟨hk6, ⟨R', rfl, rfl, hd6⟩ | ⟨m, hm, rfl, rfl⟩⟩
   ·have HD6 := Za hd6
    have HO6 : Hid (O = G (Xp R' (((i + 1 : Nat) : Int) + 1) ((Zv bs).drop (i + 1)))) := by
     show O = _
     rw [HOI.out, HDS.out, HLP.out]
     rfl
    have HI6 := Za (HNX.out R' rfl)
    clear hd6 hk6 HNX HLP HOI HIV HD HTK HX5 HXW HKW HDS HKR HK5
    go_wp2_with fail
    go_roundw
    case rel => exact ⟨i + 1, R', by go_num, by omega, HO6, HI6, HD6⟩
    case measure => simp [intOf]; omega
   ·have HE : Hid (O = .inl ((i : Int) + 1, m)) := by
     show O = _
     rw [HOI.out, HDS.out, HLP.out, HGD.out]
    have HX6 := Za (Zc hk6 HX2.out id)
    have hm' : (m == 0) = false := by simpa using hm
    have HM := Za hm
    have hm2 : (m != 0) = true := by simpa using hm
    obtain ⟨c0, c1, c2, f0, f1, f2⟩ := Zx HX6.out
    obtain ⟨hx, hkx⟩ := Zct w6 g2 26 _ _ _ (.int .i64 0) (.slice none 0 0) (.slice none 0 0) HX6.out
    have HX7 := Za hx
    have HK7 := Za ((HK2.out.trans hk6).step hkx (fun q hq e => by have := HG2.out; omega))
    clear hx hkx HX5 hm
    go_wp2_with fail
    refine bodyPost_ret (v := .tuple #[.agg #[.int .i64 0, .slice none 0 0, .slice none 0 0], .int .i64 m, .int .i64 ((i : Int) + 1)]) ?_ rfl ⟨HK7.out, .inl ⟨_, m, HE.out, HM.out, rfl⟩⟩
    exact Zt (by rfl) _ _ g2 26 _ (0, 0) _ _ _ (by rfl) (by rfl) (by rfl) HX7.out Tryz.underlying26 rfl Zak
  ·have hiI : ¬ (i : Int) < (n : Int) := by omega
   have hie : i = n := by omega
   have HOE : Hid (O = G (.inr R)) := by
    show O = _
    have h9 := HOI.out
    rw [List.drop_eq_nil_of_le (by have := HN.out; omega)] at h9
    exact h9
   have HI9 : Hid (∃ T, InvD R n T) := ⟨_, hie ▸ HIV.out⟩
   have HLS : Hid (∀ f ∈ R.fs, f.ls.length ≤ 80000) := fun f hf => by
    have h8 := HIV.out.ls f hf
    rw [hie, List.take_of_length_le (by have := HN.out; omega)] at h8
    have := Zd1 bs
    have := HSZ.out
    omega
   clear HOI HIV hie HL
   obtain ⟨T0, hI⟩ := HI9.out
   obtain ⟨CV, LV, PV, dv, fv, nv, lv, pv, wv, hZ⟩ := HD.out
   obtain ⟨wa, wc, hwv⟩ := Zd hZ.wts
   obtain ⟨nw, hnw⟩ := nmd (R.ws.length)
   have hwv : wv = .slice wa nw wc := by rw [hnw]; exact hwv
   subst hwv
   have HNW := Za hnw
   have hnwB : (nw : Int) ≤ 80000 := by have := hI.inv.ws; omega
   have HFL9 : Hid (R.fs.length ≤ 80000) := by show _ ≤ _; have := hI.inv.fs; omega
   have HOF0 : Hid (O = Zkm R (Xg (R.ws.drop 0) R.fs)) := by
    show O = _
    rw [HOE.out, HGD.out, List.drop_zero]
    simp only
    cases Xg R.ws R.fs <;> rfl
   have HWK0 : Hid (WOk R.ws R.fs) := hI.inv.wok
   have HINV := Za hI.inv
   have htl := Zd1 bs
   have HFB0 : Hid (FB R.fs) := fun f hf => ⟨hI.inv.nums.fns f hf, by have := hI.inv.code f hf; omega, HLS.out f hf, hI.pl f hf⟩
   have HZ0 : Hid (DrZ w2 wr r (shR ⟨R.mem, R.sized, R.data, R.fs, R.ws⟩ CV LV PV dv fv nv lv pv (.slice wa nw wc))) := hZ
   have c7 : wr.cell? ⟨r, 7, none⟩ = some (.slice wa nw wc) := Zb _ _ 7 _ _ _ hZ.box
   clear hI hZ hnw HOE HGD HI9 HD htl HO
   go_wp2_with fail
   go_loopw [11] (fun iv wx => ∃ (i2 : Nat) (fs' : List Fnc), iv = .int .i64 (i2 : Int) ∧ i2 ≤ nw ∧ Hid (DrZ w2 wx r (shR ⟨R.mem, R.sized, R.data, fs', R.ws⟩ CV LV PV dv fv nv lv pv (.slice wa nw wc))) ∧ Hid (O = Zkm R (Xg (R.ws.drop i2) fs')) ∧ Hid (WOk R.ws fs') ∧ Hid (fs'.length = R.fs.length) ∧ Hid (FB fs')) (fun iv _ => nw - (intOf iv).toNat)
   case atStart => exact ⟨0, R.fs, rfl, Nat.zero_le _, HZ0, HOF0, HWK0, rfl, HFB0⟩
   case round =>
    clear HZ0 HOF0 HWK0 HFB0 c7
    obtain ⟨i2, fs', rfl, hi2, HZ, HOF, HWK, HFL, HFB⟩ := hrel
    by_cases hlt : i2 < nw
    ·have hil : i2 < R.ws.length := by have := HNW.out; omega
     have hltI : (i2 : Int) < (nw : Int) := by omega
     obtain ⟨x, hx⟩ := nmd (R.ws[i2]'hil)
     have hxi : R.ws[i2]? = some x := by rw [hx]; exact List.getElem?_eq_getElem hil
     have HDD : Hid (O = match wtL fs' x with | none => .inl (x.ln, 142) | some v => Zkm R (Xg (R.ws.drop (i2 + 1)) (Yq fs' x.fn x.pl v))) := by
      show O = _
      rw [HOF.out, List.drop_eq_getElem_cons hil, ← hx, Xg]
      cases wtL fs' x <;> rfl
     obtain ⟨f, hf, hpl⟩ := HWK.out x (by rw [hx]; exact List.getElem_mem hil)
     obtain ⟨fg, fc, lr, lc, pr, pc, cv, lb, pb, hfv, hlv, hpv, hcv, hY⟩ := HZ.out.nth (k := x.fn) (f := f) hf
     have hkl := (List.getElem?_eq_some_iff.1 hf).1
     have hwts : wr.ownsRow w2.heap.size 71 5 (.slice wa nw wc) R.ws.length (Zbd R.ws) := HZ.out.wts
     obtain ⟨wg, wcc, wbs, hwg, _, hwb⟩ := Yw hwts (by omega)
     have hwa : wa = some ⟨wg, 0, none⟩ := by injection hwg
     subst hwa
     have hwc : ∀ j v, j < 5 → (dwC x)[j]? = some v → wr.cell? ⟨wg, i2 * 5 + j, none⟩ = some v := fun j v hj hv => by
      have := hwts.cells (g := wg) rfl (i2 * 5 + j) v (by rw [Zg7 R.ws i2 x hxi j hj]; exact hv)
      rw [Addr.add_lit, Nat.zero_add] at this
      exact this
     have v0 := hwc 0 _ (by omega) rfl
     have v1 := hwc 1 _ (by omega) rfl
     have v2 := hwc 2 _ (by omega) rfl
     have v3 := hwc 3 _ (by omega) rfl
     have v4 := hwc 4 _ (by omega) rfl
     simp only [Nat.add_zero] at v0
     obtain ⟨gc, cc, cbs, hgc, _, hgb⟩ := Yw hY.o1 (by omega)
     obtain ⟨la, llc, hlb⟩ := Zd hY.o2
     obtain ⟨pa, plc, hpb⟩ := Zd hY.o3
     obtain ⟨nf, hnf⟩ := nmd (fs'.length)
     obtain ⟨nc, hnc⟩ := nmd (f.code.length)
     obtain ⟨nl, hnl⟩ := nmd (f.ls.length)
     have hfv' : fv = .slice (some ⟨fg, 0, none⟩) nf fc := by rw [hnf]; exact hfv
     have hlv' : lv = .slice (some ⟨lr, 0, none⟩) nf lc := by rw [hnf]; exact hlv
     have hpv' : pv = .slice (some ⟨pr, 0, none⟩) nf pc := by rw [hnf]; exact hpv
     have hgc' : cv = .slice (some ⟨gc, 0, none⟩) nc cc := by rw [hnc]; exact hgc
     have hlb' : lb = .slice la nl llc := by rw [hnl]; exact hlb
     have hpb' : pb = .slice pa nl plc := by rw [hnl]; exact hpb
     have hfg : ¬ fg = gc := fun e => by
      have h8 := hY.o1
      have h9 : wr.ownsRow w2.heap.size 78 4 fv fs'.length (Zw fs' CV) := HZ.out.fns
      exact Zce h9 h8 (by decide) fg (by rw [hfv]; rfl) (by rw [hgc, e]; rfl)
     have HFG := Za hfg
     have HF := Za hf
     have HCV := Za hcv
     have HPL := Za hpl
     have HGC := Za hgc'
     have HFV := Za hfv'
     have HLV := Za hlv'
     have HPV := Za hpv'
     have HLB := Za hlb'
     have HPB := Za hpb'
     have HNF := Za hnf
     have HNC := Za hnc
     have HNL := Za hnl
     have hfb := HFB.out f (List.mem_of_getElem? hf)
     have hfl := HFL.out
     have hfl9 := HFL9.out
     have hfnI : (x.fn : Int) < (nf : Int) := by omega
     have hplI : (x.pl : Int) < (nc : Int) := by omega
     have hfnB : (x.fn : Int) ≤ 90000 := by omega
     have hplB : (x.pl : Int) ≤ 90000 := by omega
     have hnlB : (nl : Int) ≤ 90000 := by omega
     have HYA := Za hY
     obtain ⟨ln, fn, pl, nm, jump⟩ := x
     simp only at v0 v1 v2 v3 v4 HDD HF HCV HPL HYA hfnI hplI hfnB hplB
     have hka : Kept nF wr (wr.alloc (.cells #[.int .i64 (fn : Int), .int .i64 (pl : Int), .int .i64 ln, .string nm, .bool jump] 71)) := (Kept.refl _ _).alloc _
     have HBo := Za (heap_alloc_new wr (.cells #[.int .i64 (fn : Int), .int .i64 (pl : Int), .int .i64 ln, .string nm, .bool jump] 71))
     have HZo := Za (HZ.out.same hka)
     have HYo := Za (HYA.out.same hka)
     have c7 : wr.cell? ⟨r, 7, none⟩ = some (.slice (some ⟨wg, 0, none⟩) nw wc) := Zb _ _ 7 _ _ _ HZ.out.box
     clear hx hxi hf hpl hcv hgc hgb hfv hlv hpv hgc' hfv' hlv' hpv' hlb hpb hlb' hpb' hnf hnc hnl hwts hwb hwc hka hkl hfb hfl hfl9 hY HYA HOF HZ hwg hfg
     go_upto_region 18 with fail
     generalize wr.alloc (.cells #[.int .i64 (fn : Int), .int .i64 (pl : Int), .int .i64 ln, .string nm, .bool jump] 71) = wb at *
     generalize wr.heap.size = pp at *
     clear v0 v1 v2 v3 v4 c7
     go_upto_region 18 with fail
     have hkd : Kept nF wb wb.drew := (Kept.refl _ _).drew
     have HZn := Za (HZo.out.same hkd)
     have HBn := Za (Zc hkd HBo.out id)
     have HYn := Za (HYo.out.same hkd)
     clear HZo HBo HYo hkd
     try clear u0 u1 u2 u3 u4
     refine wp_region_held_drew (S := fun w' => w' = wb.drew) (by kernel_rfl) rfl (fun qh => ?_)
     generalize wb.drew = wd at *
     have HZo := HZn
     have HBo := HBn
     have HYo := HYn
     clear HZn HBn HYn
     have HHAS := Za (Zkd nv (fs'.map Fnc.nm) nm wd HZo.out.strs (by rw [List.length_map]; have := HFL.out; have := HFL9.out; omega))
     obtain ⟨a, ha⟩ := nmd (Zbk (fs'.map Fnc.nm) nm 0)
     rw [← ha] at HHAS
     have HA := Za ha
     obtain ⟨na, nac, hnv⟩ := Zd HZo.out.names
     have hnv : nv = .slice na fs'.length nac := hnv
     rw [← HNF.out] at hnv
     have l4 : wd.cell? ⟨r, 4, none⟩ = some (.slice na nf nac) := by rw [← hnv]; exact Zb _ _ 4 _ _ _ HZo.out.box
     rw [hnv] at HHAS
     have HNV := Za hnv
     clear hnv ha
     obtain ⟨u0, u1, u2, u3, u4⟩ : wd.cell? ⟨pp, 0, none⟩ = some (.int .i64 (fn : Int)) ∧ wd.cell? ⟨pp, 1, none⟩ = some (.int .i64 (pl : Int)) ∧ wd.cell? ⟨pp, 2, none⟩ = some (.int .i64 ln) ∧ wd.cell? ⟨pp, 3, none⟩ = some (.string nm) ∧ wd.cell? ⟨pp, 4, none⟩ = some (.bool jump) :=
      ⟨Zb _ _ 0 _ _ _ HBo.out, Zb _ _ 1 _ _ _ HBo.out, Zb _ _ 2 _ _ _ HBo.out, Zb _ _ 3 _ _ _ HBo.out, Zb _ _ 4 _ _ _ HBo.out⟩
     iterate 3
      refine tkn (v := ?_) 0 rfl ?_ ?_; rotate_left
      ·intro w hSw; go_simp; try with_reducible rfl
      try simp only [Act.put, tdy]
     iterate 1
      refine tkn (v := ?_) 3 rfl ?_ ?_; rotate_left
      ·intro w hSw; have hSw := hSw.symm; subst hSw; go_simp; try with_reducible rfl
      try simp only [Act.put, tdy]
     iterate 1
      refine tkn (v := ?_) 4 rfl ?_ ?_; rotate_left
      ·intro w hSw; go_simp; try with_reducible rfl
      try simp only [Act.put, tdy]
     iterate 1
      refine tkn (v := ?_) 5 rfl ?_ ?_; rotate_left
      ·intro w hSw; have hSw := hSw.symm; subst hSw; go_simp; try with_reducible rfl
      try simp only [Act.put, tdy]
     refine rdy 6 rfl (fun K hK => ?_)
     go_simp
     refine HHAS.out.mono ?_
     rintro e w4 ⟨rfl, hw⟩
     have hw := hw.symm
     subst hw
     refine hK.out _ _ qh (fun qh => ?_)
     clear hK K
     try simp only [Act.put, tdy]
     iterate 1
      refine tkn (v := ?_) 7 rfl ?_ ?_; rotate_left
      ·intro w hSw; go_simp; try with_reducible rfl
      try simp only [Act.put, tdy]
     refine wpAnyH_done (by kernel_rfl) ?_ _
     clear l4 HHAS qh
     cases jump
     ·have hj1 := Zrx (fs := fs') (x := ⟨ln, fn, pl, nm, false⟩) rfl
      rw [← HA.out] at hj1
      rcases hj1 with ⟨h1, h2⟩ | ⟨k, h1, h2⟩
      ·subst h2
       have HE : Hid (O = .inl (ln, 142)) := by
        show O = _
        rw [HDD.out, h1]
       clear h1 HDD
       go_upto_region 24 with fail
       have hkd : Kept nF wd wd.drew := (Kept.refl _ _).drew
       have HZn := Za (HZo.out.same hkd)
       have HBn := Za (Zc hkd HBo.out id)
       clear HBo HYo hkd u0 u1 u2 u3 u4
       refine wp_region_held_drew (S := fun w' => Kept (fun q => q = g2) wd.drew w') (by kernel_rfl) (Kept.refl _ _) (fun qh => ?_)
       generalize wd.drew = wq at *
       have HX6 := Za (Zc HZn.out.kept HX2.out id)
       have HSM : Hid (∀ w', Kept (fun q => q = g2) wq w' → w'.cell? ⟨pp, 2, none⟩ = some (.int .i64 ln)) := fun w' hw => hw.cell (Zb _ _ 2 _ _ _ HBn.out) (Xi HBn.out HX6.out (by decide))
       obtain ⟨c0, c1, c2, f0, f1, f2⟩ := Zx HX6.out
       obtain ⟨hx, hkx⟩ := Zct wq g2 26 _ _ _ (.int .i64 0) (.slice none 0 0) (.slice none 0 0) HX6.out
       have HX7 := Za hx
       have HKX := Za hkx
       have HK7 := Za ((HK2.out.trans HZn.out.kept).step hkx (fun q hq e => by have := HG2.out; omega))
       clear hx hkx
       iterate 2
        refine tkn (v := ?_) 0 rfl ?_ ?_; rotate_left
        ·intro w hSw; go_simp; try with_reducible rfl
        try simp only [Act.put, tdy]
       iterate 1
        refine tkn (v := ?_) 2 rfl ?_ ?_; rotate_left
        ·intro w hSw; have s2 := HSM.out w hSw; go_simp; try with_reducible rfl
        try simp only [Act.put, tdy]
       refine rdy 3 rfl (fun K hK => ?_)
       go_simp
       refine hK.out _ _ HKX.out (fun qh => ?_)
       clear hK K
       try simp only [Act.put, tdy]
       iterate 2
        refine tkn (v := ?_) 4 rfl ?_ ?_; rotate_left
        ·intro w hSw; go_simp; try with_reducible rfl
        try simp only [Act.put, tdy]
       refine wpAnyH_done (by kernel_rfl) ?_ _
       clear c0 c1 c2 f0 f1 f2 HSM qh
       go_wp2_with fail
       refine bodyPost_ret (v := .tuple #[.agg #[.int .i64 0, .slice none 0 0, .slice none 0 0], .int .i64 142, .int .i64 ln]) ?_ rfl ⟨HK7.out, .inl ⟨_, 142, HE.out, by decide, rfl⟩⟩
       exact Zt (by rfl) _ _ g2 26 _ (0, 0) _ _ _ (by rfl) (by rfl) (by rfl) HX7.out Tryz.underlying26 rfl Zak
      ·subst h2
       have HE : Hid (O = Zkm R (Xg (R.ws.drop (i2 + 1)) (Yq fs' fn pl ((k : Int))))) := by
        show O = _
        rw [HDD.out, h1]
       have HI64 : Hid (I64 ((k : Int))) := Zhu (x := ⟨ln, fn, pl, nm, false⟩) (fun f hf => (HFB.out f hf).1) (by have := HFL.out; have := HFL9.out; omega) h1
       clear h1 HDD HA
       go_upto_region 25 with fail
       have hkd : Kept nF wd wd.drew := (Kept.refl _ _).drew
       have HZn := Za (HZo.out.same hkd)
       have HBn := Za (Zc hkd HBo.out id)
       have HYn := Za (HYo.out.same hkd)
       clear HZo HBo HYo hkd u0 u1 u2 u3 u4
       refine wp_region_held_drew (S := fun w' => Kept (fun q => q = gc) wd.drew w') (by kernel_rfl) (Kept.refl _ _) (fun qh => ?_)
       generalize wd.drew = wq at *
       have hco := HYn.out.o1
       obtain ⟨gc', cc', cbs, hgc', _, hgb⟩ := Yw hco (Nat.lt_of_le_of_lt (Nat.zero_le _) HPL.out)
       have hgg : gc' = gc := by
        have h9 := HGC.out
        rw [hgc'] at h9
        injection h9 with h9 _ _
        injection h9 with h9
        injection h9
       subst hgg
       have HSM : Hid (∀ w', Kept (fun q => q = gc') wq w' → w'.cell? ⟨r, 2, none⟩ = some (.slice (some ⟨fg, 0, none⟩) nf fc) ∧ w'.cell? ⟨pp, 0, none⟩ = some (.int .i64 (fn : Int)) ∧ w'.cell? ⟨pp, 1, none⟩ = some (.int .i64 (pl : Int)) ∧ w'.cell? ⟨fg, fn * 4 + 3, none⟩ = some (.slice (some ⟨gc', 0, none⟩) nc cc)) := fun w' hw =>
        ⟨by rw [← HFV.out]; exact hw.cell (Zb _ _ 2 _ _ _ HZn.out.box) (Xi HZn.out.box hgb (by decide)), hw.cell (Zb _ _ 0 _ _ _ HBn.out) (Xi HBn.out hgb (by decide)), hw.cell (Zb _ _ 1 _ _ _ HBn.out) (Xi HBn.out hgb (by decide)), by rw [← HGC.out]; exact hw.cell HYn.out.y1 (fun e => HFG.out e)⟩
       have hco' := hco
       rw [HGC.out, ← HNC.out] at hco'
       have hj : pl * 2 + 1 < (Zn f.code).length := by rw [Zbp]; have := HPL.out; omega
       have l0 : wq.cell? ⟨gc', pl * 2 + 1, none⟩ = some ((Zn f.code)[pl * 2 + 1]'hj) := by
        rw [hco'.cellAt (pl * 2 + 1) (by have := HPL.out; have := HNC.out; omega)]
        exact List.getElem?_eq_getElem hj
       have lf0 := hco'.frozenAt (pl * 2 + 1)
       have HKS6 := Za (qh.setCell (p := ⟨gc', pl * 2 + 1, none⟩) (.inr rfl) (.int .i64 ((k : Int))))
       obtain ⟨hx6, ho6⟩ := HZn.out.fill (k := fn) (p := pl) HF.out HPL.out HCV.out gc' cc (by rw [HGC.out, HNC.out]) ((k : Int))
       have HX6 : Hid (DrZ w2 (wq.setCell ⟨gc', pl * 2 + 1, none⟩ (.int .i64 ((k : Int)))) r (shR ⟨R.mem, R.sized, R.data, Yq fs' fn pl ((k : Int)), R.ws⟩ CV LV PV dv fv nv lv pv (.slice (some ⟨wg, 0, none⟩) nw wc))) := hx6
       generalize (Zn f.code)[pl * 2 + 1]'hj = old at *
       clear hco hco' hj hx6 ho6 hgb hgc'
       iterate 4
        refine tkn (v := ?_) 0 rfl ?_ ?_; rotate_left
        ·intro w hSw; go_simp; try with_reducible rfl
        try simp only [Act.put, tdy]
       iterate 1
        refine tkn (v := ?_) 4 rfl ?_ ?_; rotate_left
        ·intro w hSw; obtain ⟨s0, s1, s2, s3⟩ := HSM.out w hSw; go_simp; try with_reducible rfl
        try simp only [Act.put, tdy]
       iterate 1
        refine tkn (v := ?_) 5 rfl ?_ ?_; rotate_left
        ·intro w hSw; go_simp; try with_reducible rfl
        try simp only [Act.put, tdy]
       iterate 1
        refine tkn (v := ?_) 6 rfl ?_ ?_; rotate_left
        ·intro w hSw; obtain ⟨s0, s1, s2, s3⟩ := HSM.out w hSw; go_simp; try with_reducible rfl
        try simp only [Act.put, tdy]
       iterate 2
        refine tkn (v := ?_) 7 rfl ?_ ?_; rotate_left
        ·intro w hSw; go_simp; try with_reducible rfl
        try simp only [Act.put, tdy]
       iterate 1
        refine tkn (v := ?_) 9 rfl ?_ ?_; rotate_left
        ·intro w hSw; obtain ⟨s0, s1, s2, s3⟩ := HSM.out w hSw; go_simp; try with_reducible rfl
        try simp only [Act.put, tdy]
       iterate 1
        refine tkn (v := ?_) 10 rfl ?_ ?_; rotate_left
        ·intro w hSw; go_simp; try with_reducible rfl
        try simp only [Act.put, tdy]
       iterate 1
        refine tkn (v := ?_) 11 rfl ?_ ?_; rotate_left
        ·intro w hSw; obtain ⟨s0, s1, s2, s3⟩ := HSM.out w hSw; go_simp; try with_reducible rfl
        try simp only [Act.put, tdy]
       iterate 3
        refine tkn (v := ?_) 12 rfl ?_ ?_; rotate_left
        ·intro w hSw; go_simp; try with_reducible rfl
        try simp only [Act.put, tdy]
       refine rdy 15 rfl (fun K hK => ?_)
       go_simp
       refine hK.out _ _ HKS6.out (fun qh => ?_)
       clear hK K
       try simp only [Act.put, tdy]
       refine wpAnyH_done (by kernel_rfl) ?_ _
       have HW6 := Za (HWK.out.set fn pl ((k : Int)))
       have HL6 : Hid ((Yq fs' fn pl ((k : Int))).length = R.fs.length) := by show _ = _; rw [Zbx]; exact HFL.out
       have HC6 := Za (HFB.out.set fn pl HI64.out)
       clear l0 lf0 HSM HKS6 qh HZn HF HCV HBn HYn
       go_wp2_with fail
       go_roundw
       case rel => exact ⟨i2 + 1, Yq fs' fn pl ((k : Int)), by go_num, by omega, HX6, HE, HW6, HL6, HC6⟩
       case measure => simp [intOf]; omega
     ·have hj2 := Zry (fs := fs') (x := ⟨ln, fn, pl, nm, true⟩) rfl HF.out
      go_upto_region 20 with fail
      have hkd : Kept nF wd wd.drew := (Kept.refl _ _).drew
      have HZn := Za (HZo.out.same hkd)
      have HBn := Za (Zc hkd HBo.out id)
      have HYn := Za (HYo.out.same hkd)
      clear HZo HBo HYo hkd
      try clear u0 u1 u2 u3 u4
      refine wp_region_held_drew (S := fun w' => w' = wd.drew) (by kernel_rfl) rfl (fun qh => ?_)
      generalize wd.drew = we at *
      have HZo := HZn
      have HBo := HBn
      have HYo := HYn
      clear HZn HBn HYn
      have hST : Zkc we lb (f.ls.map Prod.fst) := Ze2 (B := w2.heap.size) (by
       have h9 := HYo.out.o2
       have e : labs (f.ls.map Prod.fst) = f.ls.map (fun x => Value.string x.1) := by unfold labs; rw [List.map_map]; rfl
       rw [List.length_map, e]
       exact h9)
      have HHAS := Za (Zkd lb (f.ls.map Prod.fst) nm we hST (by rw [List.length_map]; have := (HFB.out f (List.mem_of_getElem? HF.out)).2.2.1; omega))
      obtain ⟨a2, ha2⟩ := nmd (Zbk (f.ls.map Prod.fst) nm 0)
      rw [← ha2] at HHAS
      rw [← ha2] at hj2
      rw [HLB.out] at HHAS
      have l5 : we.cell? ⟨r, 5, none⟩ = some (.slice (some ⟨lr, 0, none⟩) nf lc) := by rw [← HLV.out]; exact Zb _ _ 5 _ _ _ HZo.out.box
      have y2 : we.cell? ⟨lr, fn, none⟩ = some (.slice la nl llc) := by rw [← HLB.out]; exact HYo.out.y2
      clear hST ha2
      obtain ⟨u0, u1, u2, u3, u4⟩ : we.cell? ⟨pp, 0, none⟩ = some (.int .i64 (fn : Int)) ∧ we.cell? ⟨pp, 1, none⟩ = some (.int .i64 (pl : Int)) ∧ we.cell? ⟨pp, 2, none⟩ = some (.int .i64 ln) ∧ we.cell? ⟨pp, 3, none⟩ = some (.string nm) ∧ we.cell? ⟨pp, 4, none⟩ = some (.bool true) :=
       ⟨Zb _ _ 0 _ _ _ HBo.out, Zb _ _ 1 _ _ _ HBo.out, Zb _ _ 2 _ _ _ HBo.out, Zb _ _ 3 _ _ _ HBo.out, Zb _ _ 4 _ _ _ HBo.out⟩
      iterate 3
       refine tkn (v := ?_) 0 rfl ?_ ?_; rotate_left
       ·intro w hSw; go_simp; try with_reducible rfl
       try simp only [Act.put, tdy]
      iterate 1
       refine tkn (v := ?_) 3 rfl ?_ ?_; rotate_left
       ·intro w hSw; have hSw := hSw.symm; subst hSw; go_simp; try with_reducible rfl
       try simp only [Act.put, tdy]
      iterate 1
       refine tkn (v := ?_) 4 rfl ?_ ?_; rotate_left
       ·intro w hSw; go_simp; try with_reducible rfl
       try simp only [Act.put, tdy]
      iterate 1
       refine tkn (v := ?_) 5 rfl ?_ ?_; rotate_left
       ·intro w hSw; have hSw := hSw.symm; subst hSw; go_simp; try with_reducible rfl
       try simp only [Act.put, tdy]
      iterate 1
       refine tkn (v := ?_) 6 rfl ?_ ?_; rotate_left
       ·intro w hSw; go_simp; try with_reducible rfl
       try simp only [Act.put, tdy]
      iterate 1
       refine tkn (v := ?_) 7 rfl ?_ ?_; rotate_left
       ·intro w hSw; have hSw := hSw.symm; subst hSw; go_simp; try with_reducible rfl
       try simp only [Act.put, tdy]
      iterate 1
       refine tkn (v := ?_) 8 rfl ?_ ?_; rotate_left
       ·intro w hSw; go_simp; try with_reducible rfl
       try simp only [Act.put, tdy]
      iterate 1
       refine tkn (v := ?_) 9 rfl ?_ ?_; rotate_left
       ·intro w hSw; have hSw := hSw.symm; subst hSw; go_simp; try with_reducible rfl
       try simp only [Act.put, tdy]
      refine rdy 10 rfl (fun K hK => ?_)
      go_simp
      refine HHAS.out.mono ?_
      rintro e w4 ⟨rfl, hw⟩
      have hw := hw.symm
      subst hw
      refine hK.out _ _ qh (fun qh => ?_)
      clear hK K
      try simp only [Act.put, tdy]
      iterate 1
       refine tkn (v := ?_) 11 rfl ?_ ?_; rotate_left
       ·intro w hSw; go_simp; try with_reducible rfl
       try simp only [Act.put, tdy]
      refine wpAnyH_done (by kernel_rfl) ?_ _
      clear l5 y2 HHAS qh
      rcases hj2 with ⟨h1, h2⟩ | ⟨k, v, h1, h2, h3, h4⟩
      ·subst h2
       have HE : Hid (O = .inl (ln, 142)) := by
        show O = _
        rw [HDD.out, h1]
       clear h1 HDD HA
       go_upto_region 24 with fail
       have hkd : Kept nF we we.drew := (Kept.refl _ _).drew
       have HZn := Za (HZo.out.same hkd)
       have HBn := Za (Zc hkd HBo.out id)
       clear HBo HYo hkd u0 u1 u2 u3 u4
       refine wp_region_held_drew (S := fun w' => Kept (fun q => q = g2) we.drew w') (by kernel_rfl) (Kept.refl _ _) (fun qh => ?_)
       generalize we.drew = wq at *
       have HX6 := Za (Zc HZn.out.kept HX2.out id)
       have HSM : Hid (∀ w', Kept (fun q => q = g2) wq w' → w'.cell? ⟨pp, 2, none⟩ = some (.int .i64 ln)) := fun w' hw => hw.cell (Zb _ _ 2 _ _ _ HBn.out) (Xi HBn.out HX6.out (by decide))
       obtain ⟨c0, c1, c2, f0, f1, f2⟩ := Zx HX6.out
       obtain ⟨hx, hkx⟩ := Zct wq g2 26 _ _ _ (.int .i64 0) (.slice none 0 0) (.slice none 0 0) HX6.out
       have HX7 := Za hx
       have HKX := Za hkx
       have HK7 := Za ((HK2.out.trans HZn.out.kept).step hkx (fun q hq e => by have := HG2.out; omega))
       clear hx hkx
       iterate 2
        refine tkn (v := ?_) 0 rfl ?_ ?_; rotate_left
        ·intro w hSw; go_simp; try with_reducible rfl
        try simp only [Act.put, tdy]
       iterate 1
        refine tkn (v := ?_) 2 rfl ?_ ?_; rotate_left
        ·intro w hSw; have s2 := HSM.out w hSw; go_simp; try with_reducible rfl
        try simp only [Act.put, tdy]
       refine rdy 3 rfl (fun K hK => ?_)
       go_simp
       refine hK.out _ _ HKX.out (fun qh => ?_)
       clear hK K
       try simp only [Act.put, tdy]
       iterate 2
        refine tkn (v := ?_) 4 rfl ?_ ?_; rotate_left
        ·intro w hSw; go_simp; try with_reducible rfl
        try simp only [Act.put, tdy]
       refine wpAnyH_done (by kernel_rfl) ?_ _
       clear c0 c1 c2 f0 f1 f2 HSM qh
       go_wp2_with fail
       refine bodyPost_ret (v := .tuple #[.agg #[.int .i64 0, .slice none 0 0, .slice none 0 0], .int .i64 142, .int .i64 ln]) ?_ rfl ⟨HK7.out, .inl ⟨_, 142, HE.out, by decide, rfl⟩⟩
       exact Zt (by rfl) _ _ g2 26 _ (0, 0) _ _ _ (by rfl) (by rfl) (by rfl) HX7.out Tryz.underlying26 rfl Zak
      ·subst h2
       have HE : Hid (O = Zkm R (Xg (R.ws.drop (i2 + 1)) (Yq fs' fn pl (v)))) := by
        show O = _
        rw [HDD.out, h1]
       have HI64 : Hid (I64 (v)) := Zhu (x := ⟨ln, fn, pl, nm, true⟩) (fun f hf => (HFB.out f hf).1) (by have := HFL.out; have := HFL9.out; omega) h1
       have hkn : (k : Int) < (nl : Int) := by have := HNL.out; omega
       have hv0 : 0 ≤ v := by
        rw [List.getElem?_map] at h4
        cases h9 : f.ls[k]? with
        | none => rw [h9] at h4; cases h4
        | some z =>
         rw [h9] at h4
         cases h4
         exact (HFB.out f (List.mem_of_getElem? HF.out)).2.2.2 z (List.mem_of_getElem? h9)
       obtain ⟨v9, hv9⟩ := Int.eq_ofNat_of_zero_le hv0
       subst hv9
       clear h1 HDD HA hv0
       go_upto_region 22 with fail
       have hkd : Kept nF we we.drew := (Kept.refl _ _).drew
       have HZn := Za (HZo.out.same hkd)
       have HBn := Za (Zc hkd HBo.out id)
       have HYn := Za (HYo.out.same hkd)
       clear HZo HBo HYo hkd
       try clear u0 u1 u2 u3 u4
       refine wp_region_held_drew (S := fun w' => w' = we.drew) (by kernel_rfl) rfl (fun qh => ?_)
       generalize we.drew = wf at *
       have HZo := HZn
       have HBo := HBn
       have HYo := HYn
       clear HZn HBn HYn
       obtain ⟨pg, pcc, pbs, hpg, _, hpgb⟩ := Yw HYo.out.o3 (by omega)
       have hpa : pa = some ⟨pg, 0, none⟩ := by
        have h9 := HPB.out
        rw [hpg] at h9
        injection h9 with h9 _ _
        exact h9.symm
       subst hpa
       have z1 : wf.cell? ⟨pg, k, none⟩ = some (.int .i64 (v9 : Int)) := by
        have h9 := HYo.out.o3.cells (g := pg) (by rw [hpg]; rfl) k (.int .i64 (v9 : Int)) (by
         have e : f.ls.map (fun x => Value.int .i64 x.2) = (f.ls.map Prod.snd).map (fun x => Value.int .i64 x) := by rw [List.map_map]; rfl
         rw [e, List.getElem?_map, h4]
         rfl)
        rw [Addr.add_lit, Nat.zero_add] at h9
        exact h9
       have l6 : wf.cell? ⟨r, 6, none⟩ = some (.slice (some ⟨pr, 0, none⟩) nf pc) := by rw [← HPV.out]; exact Zb _ _ 6 _ _ _ HZo.out.box
       have y3 : wf.cell? ⟨pr, fn, none⟩ = some (.slice (some ⟨pg, 0, none⟩) nl plc) := by rw [← HPB.out]; exact HYo.out.y3
       clear hpg hpgb h4
       obtain ⟨u0, u1, u2, u3, u4⟩ : wf.cell? ⟨pp, 0, none⟩ = some (.int .i64 (fn : Int)) ∧ wf.cell? ⟨pp, 1, none⟩ = some (.int .i64 (pl : Int)) ∧ wf.cell? ⟨pp, 2, none⟩ = some (.int .i64 ln) ∧ wf.cell? ⟨pp, 3, none⟩ = some (.string nm) ∧ wf.cell? ⟨pp, 4, none⟩ = some (.bool true) :=
        ⟨Zb _ _ 0 _ _ _ HBo.out, Zb _ _ 1 _ _ _ HBo.out, Zb _ _ 2 _ _ _ HBo.out, Zb _ _ 3 _ _ _ HBo.out, Zb _ _ 4 _ _ _ HBo.out⟩
       iterate 3
        refine tkn (v := ?_) 0 rfl ?_ ?_; rotate_left
        ·intro w hSw; go_simp; try with_reducible rfl
        try simp only [Act.put, tdy]
       iterate 1
        refine tkn (v := ?_) 3 rfl ?_ ?_; rotate_left
        ·intro w hSw; have hSw := hSw.symm; subst hSw; go_simp; try with_reducible rfl
        try simp only [Act.put, tdy]
       iterate 1
        refine tkn (v := ?_) 4 rfl ?_ ?_; rotate_left
        ·intro w hSw; go_simp; try with_reducible rfl
        try simp only [Act.put, tdy]
       iterate 1
        refine tkn (v := ?_) 5 rfl ?_ ?_; rotate_left
        ·intro w hSw; have hSw := hSw.symm; subst hSw; go_simp; try with_reducible rfl
        try simp only [Act.put, tdy]
       iterate 1
        refine tkn (v := ?_) 6 rfl ?_ ?_; rotate_left
        ·intro w hSw; go_simp; try with_reducible rfl
        try simp only [Act.put, tdy]
       iterate 1
        refine tkn (v := ?_) 7 rfl ?_ ?_; rotate_left
        ·intro w hSw; have hSw := hSw.symm; subst hSw; go_simp; try with_reducible rfl
        try simp only [Act.put, tdy]
       iterate 2
        refine tkn (v := ?_) 8 rfl ?_ ?_; rotate_left
        ·intro w hSw; go_simp; try with_reducible rfl
        try simp only [Act.put, tdy]
       iterate 1
        refine tkn (v := ?_) 10 rfl ?_ ?_; rotate_left
        ·intro w hSw; have hSw := hSw.symm; subst hSw; go_simp; try with_reducible rfl
        try simp only [Act.put, tdy]
       iterate 1
        refine tkn (v := ?_) 11 rfl ?_ ?_; rotate_left
        ·intro w hSw; go_simp; try with_reducible rfl
        try simp only [Act.put, tdy]
       refine wpAnyH_done (by kernel_rfl) ?_ _
       clear l6 y3 z1 qh
       clear h3
       go_upto_region 25 with fail
       have hkd : Kept nF wf wf.drew := (Kept.refl _ _).drew
       have HZn := Za (HZo.out.same hkd)
       have HBn := Za (Zc hkd HBo.out id)
       have HYn := Za (HYo.out.same hkd)
       clear HZo HBo HYo hkd u0 u1 u2 u3 u4
       refine wp_region_held_drew (S := fun w' => Kept (fun q => q = gc) wf.drew w') (by kernel_rfl) (Kept.refl _ _) (fun qh => ?_)
       generalize wf.drew = wq at *
       have hco := HYn.out.o1
       obtain ⟨gc', cc', cbs, hgc', _, hgb⟩ := Yw hco (Nat.lt_of_le_of_lt (Nat.zero_le _) HPL.out)
       have hgg : gc' = gc := by
        have h9 := HGC.out
        rw [hgc'] at h9
        injection h9 with h9 _ _
        injection h9 with h9
        injection h9
       subst hgg
       have HSM : Hid (∀ w', Kept (fun q => q = gc') wq w' → w'.cell? ⟨r, 2, none⟩ = some (.slice (some ⟨fg, 0, none⟩) nf fc) ∧ w'.cell? ⟨pp, 0, none⟩ = some (.int .i64 (fn : Int)) ∧ w'.cell? ⟨pp, 1, none⟩ = some (.int .i64 (pl : Int)) ∧ w'.cell? ⟨fg, fn * 4 + 3, none⟩ = some (.slice (some ⟨gc', 0, none⟩) nc cc)) := fun w' hw =>
        ⟨by rw [← HFV.out]; exact hw.cell (Zb _ _ 2 _ _ _ HZn.out.box) (Xi HZn.out.box hgb (by decide)), hw.cell (Zb _ _ 0 _ _ _ HBn.out) (Xi HBn.out hgb (by decide)), hw.cell (Zb _ _ 1 _ _ _ HBn.out) (Xi HBn.out hgb (by decide)), by rw [← HGC.out]; exact hw.cell HYn.out.y1 (fun e => HFG.out e)⟩
       have hco' := hco
       rw [HGC.out, ← HNC.out] at hco'
       have hj : pl * 2 + 1 < (Zn f.code).length := by rw [Zbp]; have := HPL.out; omega
       have l0 : wq.cell? ⟨gc', pl * 2 + 1, none⟩ = some ((Zn f.code)[pl * 2 + 1]'hj) := by
        rw [hco'.cellAt (pl * 2 + 1) (by have := HPL.out; have := HNC.out; omega)]
        exact List.getElem?_eq_getElem hj
       have lf0 := hco'.frozenAt (pl * 2 + 1)
       have HKS6 := Za (qh.setCell (p := ⟨gc', pl * 2 + 1, none⟩) (.inr rfl) (.int .i64 ((v9 : Int))))
       obtain ⟨hx6, ho6⟩ := HZn.out.fill (k := fn) (p := pl) HF.out HPL.out HCV.out gc' cc (by rw [HGC.out, HNC.out]) ((v9 : Int))
       have HX6 : Hid (DrZ w2 (wq.setCell ⟨gc', pl * 2 + 1, none⟩ (.int .i64 ((v9 : Int)))) r (shR ⟨R.mem, R.sized, R.data, Yq fs' fn pl ((v9 : Int)), R.ws⟩ CV LV PV dv fv nv lv pv (.slice (some ⟨wg, 0, none⟩) nw wc))) := hx6
       generalize (Zn f.code)[pl * 2 + 1]'hj = old at *
       clear hco hco' hj hx6 ho6 hgb hgc'
       iterate 4
        refine tkn (v := ?_) 0 rfl ?_ ?_; rotate_left
        ·intro w hSw; go_simp; try with_reducible rfl
        try simp only [Act.put, tdy]
       iterate 1
        refine tkn (v := ?_) 4 rfl ?_ ?_; rotate_left
        ·intro w hSw; obtain ⟨s0, s1, s2, s3⟩ := HSM.out w hSw; go_simp; try with_reducible rfl
        try simp only [Act.put, tdy]
       iterate 1
        refine tkn (v := ?_) 5 rfl ?_ ?_; rotate_left
        ·intro w hSw; go_simp; try with_reducible rfl
        try simp only [Act.put, tdy]
       iterate 1
        refine tkn (v := ?_) 6 rfl ?_ ?_; rotate_left
        ·intro w hSw; obtain ⟨s0, s1, s2, s3⟩ := HSM.out w hSw; go_simp; try with_reducible rfl
        try simp only [Act.put, tdy]
       iterate 2
        refine tkn (v := ?_) 7 rfl ?_ ?_; rotate_left
        ·intro w hSw; go_simp; try with_reducible rfl
        try simp only [Act.put, tdy]
       iterate 1
        refine tkn (v := ?_) 9 rfl ?_ ?_; rotate_left
        ·intro w hSw; obtain ⟨s0, s1, s2, s3⟩ := HSM.out w hSw; go_simp; try with_reducible rfl
        try simp only [Act.put, tdy]
       iterate 1
        refine tkn (v := ?_) 10 rfl ?_ ?_; rotate_left
        ·intro w hSw; go_simp; try with_reducible rfl
        try simp only [Act.put, tdy]
       iterate 1
        refine tkn (v := ?_) 11 rfl ?_ ?_; rotate_left
        ·intro w hSw; obtain ⟨s0, s1, s2, s3⟩ := HSM.out w hSw; go_simp; try with_reducible rfl
        try simp only [Act.put, tdy]
       iterate 3
        refine tkn (v := ?_) 12 rfl ?_ ?_; rotate_left
        ·intro w hSw; go_simp; try with_reducible rfl
        try simp only [Act.put, tdy]
       refine rdy 15 rfl (fun K hK => ?_)
       go_simp
       refine hK.out _ _ HKS6.out (fun qh => ?_)
       clear hK K
       try simp only [Act.put, tdy]
       refine wpAnyH_done (by kernel_rfl) ?_ _
       have HW6 := Za (HWK.out.set fn pl ((v9 : Int)))
       have HL6 : Hid ((Yq fs' fn pl ((v9 : Int))).length = R.fs.length) := by show _ = _; rw [Zbx]; exact HFL.out
       have HC6 := Za (HFB.out.set fn pl HI64.out)
       clear l0 lf0 HSM HKS6 qh HZn HF HCV HBn HYn
       go_wp2_with fail
       go_roundw
       case rel => exact ⟨i2 + 1, Yq fs' fn pl ((v9 : Int)), by go_num, by omega, HX6, HE, HW6, HL6, HC6⟩
       case measure => simp [intOf]; omega
    ·have hlt' : ¬ (i2 : Int) < (nw : Int) := by omega
     have HOE : Hid (O = if Ya (pgG ⟨R.mem, R.sized, R.data, fs', R.ws⟩) = 0 then .inr ⟨R.mem, R.sized, R.data, fs', R.ws⟩ else .inl (0, Ya (pgG ⟨R.mem, R.sized, R.data, fs', R.ws⟩))) := by
      show O = _
      rw [HOF.out, List.drop_of_length_le (by have := HNW.out; omega)]
      rfl
     have hnum : (⟨R.mem, R.sized, R.data, fs', R.ws⟩ : Rdr).Nums := ⟨HINV.out.nums.mem, HINV.out.nums.data, fun f hf => (HFB.out f hf).1⟩
     have hok : (⟨R.mem, R.sized, R.data, fs', R.ws⟩ : Rdr).Ok := by
      refine ⟨by show fs'.length ≤ _; have := HFL.out; have := HFL9.out; omega, fun f hf => by have := (HFB.out f hf).2.1; omega, by show R.ws.length ≤ _; have := HINV.out.ws; omega, by show R.data.length ≤ _; have := HINV.out.data; omega, fun x hx => ?_⟩
      obtain ⟨f, h1, _⟩ := HWK.out x hx
      exact (List.getElem?_eq_some_iff.1 h1).1
     have hX := HZ.out
     obtain ⟨R', hR'⟩ := nmd ((⟨R.mem, R.sized, R.data, fs', R.ws⟩ : Rdr))
     rw [← hR'] at hnum hok hX HOE
     have HCK := Za (Zg6 _ (pgG R') wr _ hX.pg (Nat.le_refl _) (Zj3 hnum hok))
     have HX5 := Za hX
     obtain ⟨da, dc, hdv⟩ := Zd hX.data
     obtain ⟨dn, hdn⟩ := nmd (R'.data.length)
     have hdv : dv = .slice da dn dc := by rw [hdn]; exact hdv
     obtain ⟨fa, fc, hfv⟩ := Zd hX.fns
     obtain ⟨fn, hfn⟩ := nmd (R'.fs.length)
     have hfv : fv = .slice fa fn fc := by rw [hfn]; exact hfv
     have HDV := Za hdv
     have HFV := Za hfv
     have hbox : wr.heap[r]? = some (.cells #[.int .i64 R'.mem, dv, fv, .bool R'.sized, nv, lv, pv, .slice wa nw wc] 63 (0, 0)) := hX.box
     rw [hdv, hfv] at hbox
     rw [hdv, hfv] at HCK
     obtain ⟨cz, hcz⟩ := nmd (Ya (pgG R'))
     rw [← hcz] at HCK HOE
     have HCZ := Za hcz
     obtain ⟨mz, hmz⟩ := nmd (R'.mem)
     rw [← hmz] at hbox HCK
     have HMZ := Za hmz
     have HBX := Za hbox
     have r0 := Zb _ _ 0 _ _ _ hbox
     have r1 := Zb _ _ 1 _ _ _ hbox
     have r2 := Zb _ _ 2 _ _ _ hbox
     have r7 := Zb _ _ 7 _ _ _ hbox
     clear hX hR' hnum hok hdv hfv hdn hfn hbox hcz hmz HZ
     go_wp2_with fail
     refine HCK.out.mono ?_
     rintro e w6 ⟨rfl, hk6⟩
     have hz6 := HX5.out.same hk6
     have hx6 := Zc hz6.kept HX2.out id
     obtain ⟨c0, c1, c2, f0, f1, f2⟩ := Zx hx6
     have hbox6 := Zc hk6 HBX.out id
     clear r0 r1 r2 r7
     have r0 := Zb _ _ 0 _ _ _ hbox6
     have r1 := Zb _ _ 1 _ _ _ hbox6
     have r2 := Zb _ _ 2 _ _ _ hbox6
     by_cases hz : cz = 0
     ·subst hz
      obtain ⟨hx, hkx⟩ := Zct w6 g2 26 _ _ _ (.int .i64 mz) (.slice da dn dc) (.slice fa fn fc) hx6
      have hz7 := (hz6.mono HK2.out).chg hkx (Yx hx6) (by decide) (by decide) (fun q hq => by have := HG2.out; omega)
      have HZ7 := Za hz7
      have HX7 := Za hx
      have HE : Hid (O = .inr R') := by
       show O = _
       rw [HOE.out, if_pos rfl]
      clear hx hkx hx6 hz6 hz7 hbox6 hk6 HCK HCZ HOE
      go_wp2
      refine bodyPost_ret (v := .tuple #[.agg #[.int .i64 mz, .slice da dn dc, .slice fa fn fc], .int .i64 0, .int .i64 0]) ?_ rfl ⟨HZ7.out.kept, .inr ⟨R', _, HE.out, rfl, ?_⟩⟩
      ·exact Zt (by rfl) _ _ g2 26 _ (0, 0) _ _ _ (by rfl) (by rfl) (by rfl) HX7.out Tryz.underlying26 rfl Zak
      ·have h9 := HZ7.out.pg
       rw [HDV.out, HFV.out, ← HMZ.out] at h9
       exact h9
     ·obtain ⟨hx, hkx⟩ := Zct w6 g2 26 _ _ _ (.int .i64 0) (.slice none 0 0) (.slice none 0 0) hx6
      have HX7 := Za hx
      have HK7 := Za ((HK2.out.trans hz6.kept).step hkx (fun q hq e => by have := HG2.out; omega))
      have HE : Hid (O = .inl (0, cz)) := by
       show O = _
       rw [HOE.out, if_neg hz]
      have HNZ := Za hz
      have hz1 : (cz == 0) = false := by simpa using hz
      have hz2 : (cz != 0) = true := by simpa using hz
      clear hx hkx hx6 hz6 hbox6 hk6 HCK HCZ HOE hz
      go_wp2
      refine bodyPost_ret (v := .tuple #[.agg #[.int .i64 0, .slice none 0 0, .slice none 0 0], .int .i64 cz, .int .i64 0]) ?_ rfl ⟨HK7.out, .inl ⟨_, cz, HE.out, HNZ.out, rfl⟩⟩
      exact Zt (by rfl) _ _ g2 26 _ (0, 0) _ _ _ (by rfl) (by rfl) (by rfl) HX7.out Tryz.underlying26 rfl Zak
end Go.Proofs.YtgoabnehdmdikaaGreatDoor

import Derived.Test.YtgoabnehdmdikaaGreatDoorTLg26
set_option linter.unusedVariables false
set_option linter.unusedSimpArgs false
set_option maxRecDepth 100000
set_option maxHeartbeats 64000000
namespace Go.Proofs.YtgoabnehdmdikaaGreatDoor
open Go.RowKit
def Zdq (w0 : World) (r : Nat) (o : RR) (e : Ending) (w' : World) : Prop :=
 Kept nF w0 w' ∧ ((∃ R', o = .good R' ∧ e = .returned (.int .i64 0) ∧ DrG w0 w' r R') ∨ (∃ n, n ≠ 0 ∧ o = .bad n ∧ e = .returned (.int .i64 n)))
theorem Znb {R : Rdr} {n : Int} {y : SD} (h : Xw R y.k = false) : Yn R n y = .bad 141 := by
 unfold Xw at h
 unfold Yn
 by_cases k1 : y.k = 1
 ·rw [if_pos k1] at h
  rw [if_pos k1, if_pos]
  cases hs : R.sized with
  | true => exact .inl rfl
  | false => rw [hs] at h; exact .inr (by simpa using h)
 rw [if_neg k1] at h ⊢
 by_cases k2 : y.k = 2
 ·rw [if_pos k2] at h
  rw [if_pos k2, if_pos]
  simpa using h
 rw [if_neg k2] at h ⊢
 by_cases k4 : y.k = 4
 ·rw [if_pos k4] at h
  have h0 : R.fs = [] := by simpa using h
  rw [if_neg (by omega), if_pos k4, h0]
  rfl
 rw [if_neg k4] at h
 cases h
theorem Zrq {R : Rdr} {n : Int} {y : SD} (h : Xw R y.k = true) (hb : y.big = true) : Yn R n y = .bad 143 := by
 unfold Xw at h
 unfold Yn
 by_cases k1 : y.k = 1
 ·rw [if_pos k1] at h
  rw [if_pos k1, if_neg, if_pos hb]
  simp at h
  simp [h]
 rw [if_neg k1] at h ⊢
 by_cases k2 : y.k = 2
 ·rw [if_pos k2] at h
  rw [if_pos k2, if_neg, if_pos hb]
  simpa using h
 rw [if_neg k2] at h ⊢
 by_cases k3 : y.k = 3
 ·rw [if_pos k3, if_pos hb]
 rw [if_neg k3]
 by_cases k4 : y.k = 4
 ·rw [if_pos k4] at h
  rw [if_pos k4]
  cases hg : R.fs.getLast? with
  | none => rw [List.getLast?_eq_none_iff] at hg; simp [hg] at h
  | some f => simp only [Zbl]; rw [if_pos hb]
 rw [if_neg k4, if_pos hb]
variable {w0 w : World} {r : Nat} {R : Rdr} {CV LV PV : List Value} {dv fv nv lv pv wv : Value}
theorem DrZ.sets (h : DrZ w0 w r (shR R CV LV PV dv fv nv lv pv wv)) (n : Int) : DrZ w0 ((w.setCell ⟨r, 0, none⟩ (.int .i64 n)).setCell ⟨r, 3, none⟩ (.bool true)) r (shR ⟨n, true, R.data, R.fs, R.ws⟩ CV LV PV dv fv nv lv pv wv) := by
 have hb1 := Zf _ _ 0 _ _ _ h.box (.int .i64 n)
 have hb2 := Zf _ _ 3 _ _ _ hb1 (.bool true)
 have hk1 := Zg w r 0 (.int .i64 n)
 have hk2 := Zg (w.setCell ⟨r, 0, none⟩ (.int .i64 n)) r 3 (.bool true)
 have hk := hk1.trans hk2
 have hc := Yx h.box
 have hy := h.toDrY.ch hk hc (by decide)
 exact ⟨⟨hy.data, hy.fns, hy.code, hy.words, hy.labs, hy.plcs, hy.plc, hy.wts⟩, hb2, h.kept.step hk (fun i hi e => by have := h.lo; omega), h.lo⟩
theorem Zlj (h : DrZ w0 w r (shR R CV LV PV dv fv nv lv pv wv)) (hl : R.fs.length ≤ 90000) (k : Int) (bg : Bool) (j0 j1 j2 op a ln : Int) (la : Option Addr) (ll lc : Nat) (nm dt wd : ByteArray) (hf : Xw R k = false) :
  Calls Tryz.prog 22 #[.pointer (some ⟨r, 0, none⟩), .agg #[.int .i64 k, .slice la ll lc, .string nm, .int .i64 j0, .int .i64 j1, .int .i64 j2, .string dt, .int .i64 op, .int .i64 a, .string wd, .bool bg], .int .i64 ln] w (Zdq w0 r (.bad 141)) := by
 obtain ⟨fa, fc, hfv⟩ := Zd h.fns
 have hfv : fv = .slice fa R.fs.length fc := hfv
 subst hfv
 have hka : Kept nF w (w.alloc (.cells #[.int .i64 k, .slice la ll lc, .string nm, .int .i64 j0, .int .i64 j1, .int .i64 j2, .string dt, .int .i64 op, .int .i64 a, .string wd, .bool bg] 66)) := (Kept.refl _ _).alloc _
 have hba := heap_alloc_new w (.cells #[.int .i64 k, .slice la ll lc, .string nm, .int .i64 j0, .int .i64 j1, .int .i64 j2, .string dt, .int .i64 op, .int .i64 a, .string wd, .bool bg] 66)
 have HD1 := Za (h.same hka)
 have HX1 := Za hba
 clear h hka hba
 go_enter Tryz.func22, Tryz.ntmps22
 go_upto_region 1 with fail
 generalize w.alloc (.cells #[.int .i64 k, .slice la ll lc, .string nm, .int .i64 j0, .int .i64 j1, .int .i64 j2, .string dt, .int .i64 op, .int .i64 a, .string wd, .bool bg] 66) = w1 at *
 obtain ⟨gx, hgx⟩ := nmd (w.heap.size)
 rw [← hgx] at HX1 ⊢
 clear hgx
 obtain ⟨⟨b0, b1, b2, b3, b4, b5, b6, b7, b8, b9, b10⟩, bf7, bf8, bf9⟩ := Zq HX1.out
 have HFT : Hid (Calls Tryz.prog 43 #[.pointer (some ⟨r, 0, none⟩), .agg #[.int .i64 k, .slice la ll lc, .string nm, .int .i64 j0, .int .i64 j1, .int .i64 j2, .string dt, .int .i64 op, .int .i64 a, .string wd, .bool bg]] w1 fun e w' => e = .returned (.bool false) ∧ Kept nF w1 w') := by
  have h9 := Zdz HD1.out hl ⟨k, .slice la ll lc, nm, j0, j1, j2, dt, op, a, wd, bg⟩
  rw [show Xw R (⟨k, .slice la ll lc, nm, j0, j1, j2, dt, op, a, wd, bg⟩ : SL).k = false from hf] at h9
  exact h9
 go_wp2_with fail
 refine HFT.out.mono ?_
 rintro e w2 ⟨rfl, hk2⟩
 have HD2 := Za (HD1.out.same hk2)
 have HX2 := Za (Zc hk2 HX1.out id)
 clear hk2 HD1 HX1 HFT b0 b1 b2 b3 b4 b5 b6 b7 b8 b9 b10 bf7 bf8 bf9
 obtain ⟨⟨b0, b1, b2, b3, b4, b5, b6, b7, b8, b9, b10⟩, bf7, bf8, bf9⟩ := Zq HX2.out
 obtain ⟨n, hn⟩ := nmd (R.fs.length)
 have c2 : w2.cell? ⟨r, 2, none⟩ = some (.slice fa n fc) := by
  rw [hn]
  exact Zb _ _ 2 _ _ _ HD2.out.box
 have HNF := Za hn
 have hnb : (n : Int) ≤ 90000 := by omega
 clear hn
 go_wp2
 go_ret
 exact ⟨HD2.out.kept, .inr ⟨_, by decide, rfl, rfl⟩⟩
theorem Zoz (h : DrZ w0 w r (shR R CV LV PV dv fv nv lv pv wv)) (hl : R.fs.length ≤ 90000) (k : Int) (j0 j1 j2 op a ln : Int) (la : Option Addr) (ll lc : Nat) (nm dt wd : ByteArray) (hf : Xw R k = true) :
  Calls Tryz.prog 22 #[.pointer (some ⟨r, 0, none⟩), .agg #[.int .i64 k, .slice la ll lc, .string nm, .int .i64 j0, .int .i64 j1, .int .i64 j2, .string dt, .int .i64 op, .int .i64 a, .string wd, .bool true], .int .i64 ln] w (Zdq w0 r (.bad 143)) := by
 obtain ⟨fa, fc, hfv⟩ := Zd h.fns
 have hfv : fv = .slice fa R.fs.length fc := hfv
 subst hfv
 have hka : Kept nF w (w.alloc (.cells #[.int .i64 k, .slice la ll lc, .string nm, .int .i64 j0, .int .i64 j1, .int .i64 j2, .string dt, .int .i64 op, .int .i64 a, .string wd, .bool true] 66)) := (Kept.refl _ _).alloc _
 have hba := heap_alloc_new w (.cells #[.int .i64 k, .slice la ll lc, .string nm, .int .i64 j0, .int .i64 j1, .int .i64 j2, .string dt, .int .i64 op, .int .i64 a, .string wd, .bool true] 66)
 have HD1 := Za (h.same hka)
 have HX1 := Za hba
 clear h hka hba
 go_enter Tryz.func22, Tryz.ntmps22
 go_upto_region 1 with fail
 generalize w.alloc (.cells #[.int .i64 k, .slice la ll lc, .string nm, .int .i64 j0, .int .i64 j1, .int .i64 j2, .string dt, .int .i64 op, .int .i64 a, .string wd, .bool true] 66) = w1 at *
 obtain ⟨gx, hgx⟩ := nmd (w.heap.size)
 rw [← hgx] at HX1 ⊢
 clear hgx
 obtain ⟨⟨b0, b1, b2, b3, b4, b5, b6, b7, b8, b9, b10⟩, bf7, bf8, bf9⟩ := Zq HX1.out
 have HFT : Hid (Calls Tryz.prog 43 #[.pointer (some ⟨r, 0, none⟩), .agg #[.int .i64 k, .slice la ll lc, .string nm, .int .i64 j0, .int .i64 j1, .int .i64 j2, .string dt, .int .i64 op, .int .i64 a, .string wd, .bool true]] w1 fun e w' => e = .returned (.bool true) ∧ Kept nF w1 w') := by
  have h9 := Zdz HD1.out hl ⟨k, .slice la ll lc, nm, j0, j1, j2, dt, op, a, wd, true⟩
  rw [show Xw R (⟨k, .slice la ll lc, nm, j0, j1, j2, dt, op, a, wd, true⟩ : SL).k = true from hf] at h9
  exact h9
 go_wp2_with fail
 refine HFT.out.mono ?_
 rintro e w2 ⟨rfl, hk2⟩
 have HD2 := Za (HD1.out.same hk2)
 have HX2 := Za (Zc hk2 HX1.out id)
 clear hk2 HD1 HX1 HFT b0 b1 b2 b3 b4 b5 b6 b7 b8 b9 b10 bf7 bf8 bf9
 obtain ⟨⟨b0, b1, b2, b3, b4, b5, b6, b7, b8, b9, b10⟩, bf7, bf8, bf9⟩ := Zq HX2.out
 obtain ⟨n, hn⟩ := nmd (R.fs.length)
 have c2 : w2.cell? ⟨r, 2, none⟩ = some (.slice fa n fc) := by
  rw [hn]
  exact Zb _ _ 2 _ _ _ HD2.out.box
 have HNF := Za hn
 have hnb : (n : Int) ≤ 90000 := by omega
 clear hn
 go_wp2
 go_ret
 exact ⟨HD2.out.kept, .inr ⟨_, by decide, rfl, rfl⟩⟩
theorem Znc (h : DrZ w0 w r (shR R CV LV PV dv fv nv lv pv wv)) (hl : R.fs.length ≤ 90000) (k : Int) (j0 j1 j2 op a ln : Int) (la : Option Addr) (ll lc : Nat) (nm dt wd : ByteArray) (hf : Xw R k = true) (hk : k ≠ 1 ∧ k ≠ 2 ∧ k ≠ 3 ∧ k ≠ 4) :
  Calls Tryz.prog 22 #[.pointer (some ⟨r, 0, none⟩), .agg #[.int .i64 k, .slice la ll lc, .string nm, .int .i64 j0, .int .i64 j1, .int .i64 j2, .string dt, .int .i64 op, .int .i64 a, .string wd, .bool false], .int .i64 ln] w (Zdq w0 r (.good R)) := by
 obtain ⟨fa, fc, hfv⟩ := Zd h.fns
 have hfv : fv = .slice fa R.fs.length fc := hfv
 subst hfv
 have hka : Kept nF w (w.alloc (.cells #[.int .i64 k, .slice la ll lc, .string nm, .int .i64 j0, .int .i64 j1, .int .i64 j2, .string dt, .int .i64 op, .int .i64 a, .string wd, .bool false] 66)) := (Kept.refl _ _).alloc _
 have hba := heap_alloc_new w (.cells #[.int .i64 k, .slice la ll lc, .string nm, .int .i64 j0, .int .i64 j1, .int .i64 j2, .string dt, .int .i64 op, .int .i64 a, .string wd, .bool false] 66)
 have HD1 := Za (h.same hka)
 have HX1 := Za hba
 clear h hka hba
 go_enter Tryz.func22, Tryz.ntmps22
 go_upto_region 1 with fail
 generalize w.alloc (.cells #[.int .i64 k, .slice la ll lc, .string nm, .int .i64 j0, .int .i64 j1, .int .i64 j2, .string dt, .int .i64 op, .int .i64 a, .string wd, .bool false] 66) = w1 at *
 obtain ⟨gx, hgx⟩ := nmd (w.heap.size)
 rw [← hgx] at HX1 ⊢
 clear hgx
 obtain ⟨⟨b0, b1, b2, b3, b4, b5, b6, b7, b8, b9, b10⟩, bf7, bf8, bf9⟩ := Zq HX1.out
 have HFT : Hid (Calls Tryz.prog 43 #[.pointer (some ⟨r, 0, none⟩), .agg #[.int .i64 k, .slice la ll lc, .string nm, .int .i64 j0, .int .i64 j1, .int .i64 j2, .string dt, .int .i64 op, .int .i64 a, .string wd, .bool false]] w1 fun e w' => e = .returned (.bool true) ∧ Kept nF w1 w') := by
  have h9 := Zdz HD1.out hl ⟨k, .slice la ll lc, nm, j0, j1, j2, dt, op, a, wd, false⟩
  rw [show Xw R (⟨k, .slice la ll lc, nm, j0, j1, j2, dt, op, a, wd, false⟩ : SL).k = true from hf] at h9
  exact h9
 go_wp2_with fail
 refine HFT.out.mono ?_
 rintro e w2 ⟨rfl, hk2⟩
 have HD2 := Za (HD1.out.same hk2)
 have HX2 := Za (Zc hk2 HX1.out id)
 clear hk2 HD1 HX1 HFT b0 b1 b2 b3 b4 b5 b6 b7 b8 b9 b10 bf7 bf8 bf9
 obtain ⟨⟨b0, b1, b2, b3, b4, b5, b6, b7, b8, b9, b10⟩, bf7, bf8, bf9⟩ := Zq HX2.out
 obtain ⟨n, hn⟩ := nmd (R.fs.length)
 have c2 : w2.cell? ⟨r, 2, none⟩ = some (.slice fa n fc) := by
  rw [hn]
  exact Zb _ _ 2 _ _ _ HD2.out.box
 have HNF := Za hn
 have hnb : (n : Int) ≤ 90000 := by omega
 clear hn
 obtain ⟨k1, k2, k3, k4⟩ := hk
 have k1' : (k == 1) = false := by simpa using k1
 have k2' : (k == 2) = false := by simpa using k2
 have k3' : (k == 3) = false := by simpa using k3
 have k4' : (k == 4) = false := by simpa using k4
 go_wp2
 go_ret
 exact ⟨HD2.out.kept, .inl ⟨_, rfl, rfl, _, _, _, _, _, _, _, _, _, HD2.out⟩⟩
theorem Zo0 (h : DrZ w0 w r (shR R CV LV PV dv fv nv lv pv wv)) (hl : R.fs.length ≤ 90000) (j0 j1 j2 op a ln : Int) (la : Option Addr) (ll lc : Nat) (nm dt wd : ByteArray) (hf : Xw R 1 = true) :
  Calls Tryz.prog 22 #[.pointer (some ⟨r, 0, none⟩), .agg #[.int .i64 1, .slice la ll lc, .string nm, .int .i64 j0, .int .i64 j1, .int .i64 j2, .string dt, .int .i64 op, .int .i64 a, .string wd, .bool false], .int .i64 ln] w (Zdq w0 r (.good ⟨j0, true, R.data, R.fs, R.ws⟩)) := by
 obtain ⟨fa, fc, hfv⟩ := Zd h.fns
 have hfv : fv = .slice fa R.fs.length fc := hfv
 subst hfv
 have hka : Kept nF w (w.alloc (.cells #[.int .i64 1, .slice la ll lc, .string nm, .int .i64 j0, .int .i64 j1, .int .i64 j2, .string dt, .int .i64 op, .int .i64 a, .string wd, .bool false] 66)) := (Kept.refl _ _).alloc _
 have hba := heap_alloc_new w (.cells #[.int .i64 1, .slice la ll lc, .string nm, .int .i64 j0, .int .i64 j1, .int .i64 j2, .string dt, .int .i64 op, .int .i64 a, .string wd, .bool false] 66)
 have HD1 := Za (h.same hka)
 have HX1 := Za hba
 clear h hka hba
 go_enter Tryz.func22, Tryz.ntmps22
 go_upto_region 1 with fail
 generalize w.alloc (.cells #[.int .i64 1, .slice la ll lc, .string nm, .int .i64 j0, .int .i64 j1, .int .i64 j2, .string dt, .int .i64 op, .int .i64 a, .string wd, .bool false] 66) = w1 at *
 obtain ⟨gx, hgx⟩ := nmd (w.heap.size)
 rw [← hgx] at HX1 ⊢
 clear hgx
 obtain ⟨⟨b0, b1, b2, b3, b4, b5, b6, b7, b8, b9, b10⟩, bf7, bf8, bf9⟩ := Zq HX1.out
 have HFT : Hid (Calls Tryz.prog 43 #[.pointer (some ⟨r, 0, none⟩), .agg #[.int .i64 1, .slice la ll lc, .string nm, .int .i64 j0, .int .i64 j1, .int .i64 j2, .string dt, .int .i64 op, .int .i64 a, .string wd, .bool false]] w1 fun e w' => e = .returned (.bool true) ∧ Kept nF w1 w') := by
  have h9 := Zdz HD1.out hl ⟨1, .slice la ll lc, nm, j0, j1, j2, dt, op, a, wd, false⟩
  rw [show Xw R (⟨1, .slice la ll lc, nm, j0, j1, j2, dt, op, a, wd, false⟩ : SL).k = true from hf] at h9
  exact h9
 go_wp2_with fail
 refine HFT.out.mono ?_
 rintro e w2 ⟨rfl, hk2⟩
 have HD2 := Za (HD1.out.same hk2)
 have HX2 := Za (Zc hk2 HX1.out id)
 clear hk2 HD1 HX1 HFT b0 b1 b2 b3 b4 b5 b6 b7 b8 b9 b10 bf7 bf8 bf9
 obtain ⟨⟨b0, b1, b2, b3, b4, b5, b6, b7, b8, b9, b10⟩, bf7, bf8, bf9⟩ := Zq HX2.out
 obtain ⟨n, hn⟩ := nmd (R.fs.length)
 have c2 : w2.cell? ⟨r, 2, none⟩ = some (.slice fa n fc) := by
  rw [hn]
  exact Zb _ _ 2 _ _ _ HD2.out.box
 have HNF := Za hn
 have hnb : (n : Int) ≤ 90000 := by omega
 clear hn
 have c0 : w2.cell? ⟨r, 0, none⟩ = some (.int .i64 R.mem) := Zb _ _ 0 _ _ _ HD2.out.box
 have f0 := Ze _ _ 0 _ _ HD2.out.box
 have hb9 := Zf _ _ 0 _ _ _ HD2.out.box (.int .i64 j0)
 have y3 := Ze _ _ 3 _ _ hb9
 have x3 : (w2.setCell ⟨r, 0, none⟩ (.int .i64 j0)).cell? ⟨r, 3, none⟩ = some (.bool R.sized) := Zb _ _ 3 _ _ _ hb9
 have HFIN := Za (HD2.out.sets j0)
 clear hb9
 go_wp2
 go_ret
 exact ⟨HFIN.out.kept, .inl ⟨_, rfl, rfl, _, _, _, _, _, _, _, _, _, HFIN.out⟩⟩
end Go.Proofs.YtgoabnehdmdikaaGreatDoor
namespace Go.Proofs.YtgoabnehdmdikaaGreatDoor
open Go.RowKit
variable {w0 w : World} {r : Nat} {R : Rdr} {s : Shp} {CV LV PV : List Value} {dv fv nv lv pv wv : Value}
theorem DrZ.pushD (h : DrZ w0 w r s) (x : ByteArray) (hl : s.D.length + x.size ≤ 140737488355328) : ∃ a m c w5, (Builtin.append_ #[23, 9] 23 #[s.dv, .string x]).run Tryz.prog w = .ok (.slice a m c) w5 ∧ Kept (fun q => s.dv.ownBlock = some q) w w5 ∧
  w5.heap[r]? = some (.cells s.cells 63 (0, 0)) ∧ DrZ w0 (w5.setCell ⟨r, 1, none⟩ (.slice a m c)) r { s with D := s.D ++ Xy x, dv := .slice a m c } := by
 obtain ⟨i0, hi, hz0, hz1, hz2⟩ := info_parts Tryz.info5
 obtain ⟨v', w5, hr, h2, h3, h4⟩ := Lib.run_append_own_string (P := Tryz.prog) w w0.heap.size 23 9 23 5 i0 Tryz.underlying23 Tryz.underlying9 hi hz0 hz1 hz2 s.dv s.D.length (Zo s.D) h.data x (by unfold maxLen; omega) (by omega) h.kept.size
 have hk1 : Kept (fun q => s.dv.ownBlock = some q) w w5 := (Kept.refl _ w).grown h3 (fun k hk => .inr hk)
 obtain ⟨a, q, rfl⟩ := Zd h2
 have hc := Yz h.data
 have hy : DrY w0 w5 { s with D := s.D ++ Xy x, dv := .slice a (s.D.length + x.size) q } := by
  refine ⟨?_, Zi hk1 hc h.fns (by decide), h.code.ch hk1 hc (by decide), h.words.ch hk1 hc (by decide), Zi hk1 hc h.labs (by decide), Zi hk1 hc h.plcs (by decide), h.plc.ch hk1 hc (by decide), Zi hk1 hc h.wts (by decide)⟩
  show w5.ownsRow _ _ _ _ (s.D ++ Xy x).length (Zo (s.D ++ Xy x))
  have : Zo (s.D ++ Xy x) = Zo s.D ++ Lib.strCells x := by rw [← Zh9]; simp [Zo]
  rw [this, List.length_append, show (Xy x).length = x.size by unfold Xy; rw [List.length_map, Lib.size_eq]]
  exact h2
 obtain ⟨h6, h7⟩ := h.store hk1 (h.not_own h.data (by decide)) (fun q hq => (h.data.lt q hq).1) hy 1 (.slice a (s.D.length + x.size) q) rfl
 exact ⟨_, _, _, w5, hr, hk1, h6, h7⟩
theorem Zo1 (h : DrZ w0 w r (shR R CV LV PV dv fv nv lv pv wv)) (hl : R.fs.length ≤ 90000) (j0 j1 j2 op a ln : Int) (la : Option Addr) (ll lc : Nat) (nm dt wd : ByteArray) (hf : Xw R 2 = true) (hd : R.data.length ≤ 100000000000000) (hs : dt.size ≤ 65536) :
  Calls Tryz.prog 22 #[.pointer (some ⟨r, 0, none⟩), .agg #[.int .i64 2, .slice la ll lc, .string nm, .int .i64 j0, .int .i64 j1, .int .i64 j2, .string dt, .int .i64 op, .int .i64 a, .string wd, .bool false], .int .i64 ln] w (Zdq w0 r (.good ⟨R.mem, R.sized, R.data ++ Xy dt, R.fs, R.ws⟩)) := by
 obtain ⟨fa, fc, hfv⟩ := Zd h.fns
 have hfv : fv = .slice fa R.fs.length fc := hfv
 subst hfv
 have hka : Kept nF w (w.alloc (.cells #[.int .i64 2, .slice la ll lc, .string nm, .int .i64 j0, .int .i64 j1, .int .i64 j2, .string dt, .int .i64 op, .int .i64 a, .string wd, .bool false] 66)) := (Kept.refl _ _).alloc _
 have hba := heap_alloc_new w (.cells #[.int .i64 2, .slice la ll lc, .string nm, .int .i64 j0, .int .i64 j1, .int .i64 j2, .string dt, .int .i64 op, .int .i64 a, .string wd, .bool false] 66)
 have HD1 := Za (h.same hka)
 have HX1 := Za hba
 clear h hka hba
 go_enter Tryz.func22, Tryz.ntmps22
 go_upto_region 1 with fail
 generalize w.alloc (.cells #[.int .i64 2, .slice la ll lc, .string nm, .int .i64 j0, .int .i64 j1, .int .i64 j2, .string dt, .int .i64 op, .int .i64 a, .string wd, .bool false] 66) = w1 at *
 obtain ⟨gx, hgx⟩ := nmd (w.heap.size)
 rw [← hgx] at HX1 ⊢
 clear hgx
 obtain ⟨⟨b0, b1, b2, b3, b4, b5, b6, b7, b8, b9, b10⟩, bf7, bf8, bf9⟩ := Zq HX1.out
 have HFT : Hid (Calls Tryz.prog 43 #[.pointer (some ⟨r, 0, none⟩), .agg #[.int .i64 2, .slice la ll lc, .string nm, .int .i64 j0, .int .i64 j1, .int .i64 j2, .string dt, .int .i64 op, .int .i64 a, .string wd, .bool false]] w1 fun e w' => e = .returned (.bool true) ∧ Kept nF w1 w') := by
  have h9 := Zdz HD1.out hl ⟨2, .slice la ll lc, nm, j0, j1, j2, dt, op, a, wd, false⟩
  rw [show Xw R (⟨2, .slice la ll lc, nm, j0, j1, j2, dt, op, a, wd, false⟩ : SL).k = true from hf] at h9
  exact h9
 go_wp2_with fail
 refine HFT.out.mono ?_
 rintro e w2 ⟨rfl, hk2⟩
 have HD2 := Za (HD1.out.same hk2)
 have HX2 := Za (Zc hk2 HX1.out id)
 clear hk2 HD1 HX1 HFT b0 b1 b2 b3 b4 b5 b6 b7 b8 b9 b10 bf7 bf8 bf9
 obtain ⟨⟨b0, b1, b2, b3, b4, b5, b6, b7, b8, b9, b10⟩, bf7, bf8, bf9⟩ := Zq HX2.out
 obtain ⟨n, hn⟩ := nmd (R.fs.length)
 have c2 : w2.cell? ⟨r, 2, none⟩ = some (.slice fa n fc) := by
  rw [hn]
  exact Zb _ _ 2 _ _ _ HD2.out.box
 have HNF := Za hn
 have hnb : (n : Int) ≤ 90000 := by omega
 clear hn
 have HDL : Hid (R.data.length ≤ 100000000000000 ∧ dt.size ≤ 65536) := ⟨hd, hs⟩
 clear hd hs hl hf
 go_upto_region 11 with fail
 clear c2 HNF hnb
 have hkd : Kept nF w2 w2.drew := (Kept.refl _ _).drew
 have HDd := Za (HD2.out.same hkd)
 have HXd := Za (Zc hkd HX2.out id)
 clear HD2 HX2 hkd
 refine wp_region_held_drew (S := fun w' => Kept (fun q => dv.ownBlock = some q ∨ q = r) w2.drew w') (by kernel_rfl) (Kept.refl _ _) (fun qh => ?_)
 clear b0 b1 b2 b3 b4 b5 b6 b7 b8 b9 b10 bf7 bf8 bf9
 generalize w2.drew = wd at *
 have hne : ¬ gx = r := Xi HXd.out HDd.out.box (by decide)
 have hngd : dv.ownBlock ≠ some gx := fun e => Zs HDd.out.data HXd.out (by decide) e
 have hp4 := Zb _ _ 4 _ _ _ HXd.out
 have HSM : Hid (∀ w', Kept (fun q => dv.ownBlock = some q ∨ q = r) wd w' → w'.cell? ⟨gx, 6, none⟩ = some (.string dt)) := fun w' hw => hw.cell (Zb _ _ 6 _ _ _ HXd.out) (fun e => e.elim hngd hne)
 clear hp4
 have l1 : wd.cell? ⟨r, 1, none⟩ = some dv := Zb _ _ 1 _ _ _ HDd.out.box
 obtain ⟨a5, m5, c5, w5, hr, hk5, hb5, hz5⟩ := HDd.out.pushD dt (by have := HDL.out; simp [shR]; omega)
 have HR : Hid ((Builtin.append_ #[23, 9] 23 #[dv, .string dt]).run Tryz.prog wd = .ok (.slice a5 m5 c5) w5) := hr
 have HK5 := Za (hk5.mono (T := fun q => dv.ownBlock = some q ∨ q = r) (fun _ _ e => .inl e))
 have HK6 := Za (HK5.out.setCell (p := ⟨r, 1, none⟩) (.inr (.inr rfl)) (.slice a5 m5 c5))
 have HZ5 : Hid (DrZ w0 (w5.setCell ⟨r, 1, none⟩ (.slice a5 m5 c5)) r (shR ⟨R.mem, R.sized, R.data ++ Xy dt, R.fs, R.ws⟩ CV LV PV (.slice a5 m5 c5) (.slice fa R.fs.length fc) nv lv pv wv)) := hz5
 have q1 : w5.cell? ⟨r, 1, none⟩ = some dv := Zb _ _ 1 _ _ _ hb5
 have f1 := Ze _ _ 1 _ _ hb5
 obtain ⟨da, dc, hdv⟩ := Zd HDd.out.data
 have hdv : dv = .slice da R.data.length dc := hdv
 obtain ⟨dn, hdn⟩ := nmd (R.data.length)
 rw [← hdn] at hdv
 subst hdv
 clear hr hk5 hb5 hz5 hngd hne hdn
 iterate 5
  refine tkn (v := ?_) 0 rfl ?_ ?_; rotate_left
  ·intro w hSw; go_simp; try with_reducible rfl
  try simp only [Act.put, tdy]
 iterate 1
  refine tkn (v := ?_) 6 rfl ?_ ?_; rotate_left
  ·intro w hSw; go_simp; try with_reducible rfl
  try simp only [Act.put, tdy]
 iterate 1
  refine tkn (v := ?_) 7 rfl ?_ ?_; rotate_left
  ·intro w hSw; have s1 := HSM.out w hSw; go_simp; try with_reducible rfl
  try simp only [Act.put, tdy]
 refine rdy 5 rfl (fun K hK => ?_)
 go_simp
 refine hK.out _ _ qh (fun qh => ?_)
 clear hK K
 try simp only [Act.put, tdy]
 refine rdy 8 rfl (fun K hK => ?_)
 refine Zm rfl (.tmp 43) (.tmp 45) 23 9 rfl _ _ rfl rfl (.slice a5 m5 c5) w5 HR.out ?_
 refine hK.out _ _ HK5.out (fun qh => ?_)
 clear hK K
 try simp only [Act.put, tdy]
 iterate 3
  refine tkn (v := ?_) 9 rfl ?_ ?_; rotate_left
  ·intro w hSw; go_simp; try with_reducible rfl
  try simp only [Act.put, tdy]
 refine rdy 12 rfl (fun K hK => ?_)
 go_simp
 refine hK.out _ _ HK6.out (fun qh => ?_)
 clear hK K
 try simp only [Act.put, tdy]
 refine wpAnyH_done (by kernel_rfl) ?_ _
 go_wp2
 go_ret
 exact ⟨HZ5.out.kept, .inl ⟨_, rfl, rfl, _, _, _, _, _, _, _, _, _, HZ5.out⟩⟩
end Go.Proofs.YtgoabnehdmdikaaGreatDoor
namespace Go.Proofs.YtgoabnehdmdikaaGreatDoor
open Go.RowKit
theorem Zem : ∀ (L : List (ByteArray × Int)) (s : ByteArray) (i : Nat), (lkA L s = none ∧ Zbk (L.map Prod.fst) s i = -1) ∨ ∃ k v, lkA L s = some v ∧ Zbk (L.map Prod.fst) s i = ((i + k : Nat) : Int) ∧ L[k]? = some (s, v)
 | [], s, i => .inl ⟨rfl, rfl⟩
 | (a, b) :: L, s, i => by
  rw [lkA, List.map_cons, Zbk]
  by_cases h : s = a
  ·subst h
   rw [if_pos rfl, if_pos rfl]
   exact .inr ⟨0, b, rfl, rfl, rfl⟩
  ·rw [if_neg h, if_neg (fun e => h e.symm)]
   rcases Zem L s (i + 1) with ⟨h1, h2⟩ | ⟨k, v, h1, h2, h3⟩
   ·exact .inl ⟨h1, h2⟩
   ·refine .inr ⟨k + 1, v, h1, ?_, by simpa using h3⟩
    rw [h2]
    congr 1
    omega
theorem Zio {L : List (ByteArray × Int)} {s : ByteArray} (h : (lkA L s).isSome = true) : ∃ k : Nat, Zbk (L.map Prod.fst) s 0 = (k : Int) ∧ k < L.length := by
 rcases Zem L s 0 with ⟨h1, h2⟩ | ⟨k, v, h1, h2, h3⟩
 ·rw [h1] at h; cases h
 ·exact ⟨k, by rw [h2]; simp, (List.getElem?_eq_some_iff.1 h3).1⟩
theorem Zmd {L : List (ByteArray × Int)} {s : ByteArray} (h : ¬ (lkA L s).isSome = true) : Zbk (L.map Prod.fst) s 0 = -1 := by
 rcases Zem L s 0 with ⟨h1, h2⟩ | ⟨k, v, h1, h2, h3⟩
 ·exact h2
 ·rw [h1] at h; exact absurd rfl h
theorem Zf8 : ∀ (k : Nat) (fs : List Fnc), (nmL k fs).map Prod.fst = fs.map Fnc.nm
 | _, [] => rfl
 | k, f :: fs => by rw [nmL, List.map_cons, List.map_cons, Zf8 (k + 1) fs]
theorem Zo2 : ∀ (k j : Nat) (fs : List Fnc) (s : ByteArray) (v : Int), (nmL k fs)[j]? = some (s, v) → v = ((k + j : Nat) : Int)
 | k, j, [], s, v, h => by simp [nmL] at h
 | k, 0, f :: fs, s, v, h => by
  simp [nmL] at h
  exact h.2.symm
 | k, j + 1, f :: fs, s, v, h => by
  rw [nmL, List.getElem?_cons_succ] at h
  rw [Zo2 (k + 1) j fs s v h]
  congr 1
  omega
variable {w0 w : World} {r : Nat} {R : Rdr} {s : Shp} {CV LV PV : List Value} {dv fv nv lv pv wv : Value}
theorem DrY.names (h : DrY w0 w s) : w.ownsRow w0.heap.size 9 1 s.nv s.nx.1 s.nx.2 := h.words.row 0 s.nv s.nx rfl rfl
theorem Zdr {W : World} {v v' : Value} (h : Xx W v v') : ∀ q, v'.ownBlock = some q → v.ownBlock = some q ∨ W.heap.size ≤ q := fun q hq => by
 rcases h with h | h
 ·exact .inl (by rw [← h]; exact hq)
 ·rw [h] at hq
  injection hq with hq
  exact .inr (by omega)
theorem DrZ.pushN (h : DrZ w0 w r s) (x : ByteArray) (hl : s.nx.1 ≤ 90000) : ∃ a m c w5, (Builtin.append_ #[37, 37] 37 #[s.nv, .slice (some ⟨w.heap.size, 0, none⟩) 1 1]).run Tryz.prog (w.alloc (.cells #[.string x] 9)) = .ok (.slice a m c) w5 ∧ Kept (fun q => s.nv.ownBlock = some q) w w5 ∧
  w5.heap[r]? = some (.cells s.cells 63 (0, 0)) ∧ DrZ w0 (w5.setCell ⟨r, 4, none⟩ (.slice a m c)) r { s with nx := (s.nx.1 + 1, s.nx.2 ++ [.string x]), nv := .slice a m c } := by
 obtain ⟨v', w5, hr, ho, hk0, hk1, hnb⟩ := Zc1 h.names (.string x) rfl h.kept (by omega)
 obtain ⟨a, c, hv⟩ := Zd ho
 have hc := Yz h.names
 have hF := h.words.set (k := 0) (v := s.nv) rfl hk1 v' (s.nx.1 + 1, s.nx.2 ++ [.string x]) ho (Zdr hnb)
 have hy : DrY w0 w5 { s with nx := (s.nx.1 + 1, s.nx.2 ++ [.string x]), nv := v' } :=
  ⟨Zi hk1 hc h.data (by decide), Zi hk1 hc h.fns (by decide), h.code.ch hk1 hc (by decide), hF, Zi hk1 hc h.labs (by decide), Zi hk1 hc h.plcs (by decide), h.plc.ch hk1 hc (by decide), Zi hk1 hc h.wts (by decide)⟩
 obtain ⟨h6, h7⟩ := h.store hk1 (h.not_own h.names (by decide)) (fun q hq => (h.names.lt q hq).1) hy 4 v' rfl
 subst hv
 exact ⟨_, _, _, w5, hr, hk1, h6, h7⟩
theorem DrZ.pushF (h : DrZ w0 w r s) (n0 n1 n2 : Int) (hl : s.nf ≤ 90000) : ∃ a m c w5, (Builtin.append_ #[24, 24] 24 #[s.fv, .slice (some ⟨w.heap.size, 0, none⟩) 1 1]).run Tryz.prog (w.alloc (.cells #[.int .i64 n0, .int .i64 n1, .int .i64 n2, .slice none 0 0] 78)) = .ok (.slice a m c) w5 ∧ Kept (fun q => s.fv.ownBlock = some q) w w5 ∧
  w5.heap[r]? = some (.cells s.cells 63 (0, 0)) ∧ DrZ w0 (w5.setCell ⟨r, 2, none⟩ (.slice a m c)) r { s with nf := s.nf + 1, FC := s.FC ++ [.int .i64 n0, .int .i64 n1, .int .i64 n2, .slice none 0 0], fv := .slice a m c, CV := s.CV ++ [.slice none 0 0], cx := s.cx ++ [(0, [])] } := by
 obtain ⟨v', w5, hr, ho, hk0, hk1, hnb⟩ := Zi7 h.fns (.int .i64 n0) (.int .i64 n1) (.int .i64 n2) (.slice none 0 0) rfl rfl rfl rfl h.kept hl
 obtain ⟨a, c, hv⟩ := Zd ho
 have hc := Yz h.fns
 have hy : DrY w0 w5 { s with nf := s.nf + 1, FC := s.FC ++ [.int .i64 n0, .int .i64 n1, .int .i64 n2, .slice none 0 0], fv := v', CV := s.CV ++ [.slice none 0 0], cx := s.cx ++ [(0, [])] } :=
  ⟨Zi hk1 hc h.data (by decide), ho, (h.code.ch hk1 hc (by decide)).snoc, h.words.ch hk1 hc (by decide), Zi hk1 hc h.labs (by decide), Zi hk1 hc h.plcs (by decide), h.plc.ch hk1 hc (by decide), Zi hk1 hc h.wts (by decide)⟩
 obtain ⟨h6, h7⟩ := h.store hk1 (h.not_own h.fns (by decide)) (fun q hq => (h.fns.lt q hq).1) hy 2 v' rfl
 subst hv
 exact ⟨_, _, _, w5, hr, hk1, h6, h7⟩
theorem DrZ.pushL (h : DrZ w0 w r s) (hl : s.LV.length ≤ 90000) : ∃ a m c w5, (Builtin.append_ #[59, 59] 59 #[s.lv, .slice (some ⟨w.heap.size, 0, none⟩) 1 1]).run Tryz.prog (w.alloc (.cells #[.slice none 0 0] 37)) = .ok (.slice a m c) w5 ∧ Kept (fun q => s.lv.ownBlock = some q) w w5 ∧
  w5.heap[r]? = some (.cells s.cells 63 (0, 0)) ∧ DrZ w0 (w5.setCell ⟨r, 5, none⟩ (.slice a m c)) r { s with LV := s.LV ++ [.slice none 0 0], lx := s.lx ++ [(0, [])], lv := .slice a m c } := by
 obtain ⟨v', w5, hr, ho, hk0, hk1, hnb⟩ := Zul h.labs (Value.slice none 0 0) rfl h.kept (by omega)
 obtain ⟨a, c, hv⟩ := Zd ho
 have hc := Yz h.labs
 have hy : DrY w0 w5 { s with LV := s.LV ++ [.slice none 0 0], lx := s.lx ++ [(0, [])], lv := v' } := by
  refine ⟨Zi hk1 hc h.data (by decide), Zi hk1 hc h.fns (by decide), h.code.ch hk1 hc (by decide), (h.words.ch hk1 hc (by decide)).snoc, ?_, Zi hk1 hc h.plcs (by decide), h.plc.ch hk1 hc (by decide), Zi hk1 hc h.wts (by decide)⟩
  show w5.ownsRow _ _ _ _ (s.LV ++ [Value.slice none 0 0]).length _
  rw [List.length_append]
  exact ho
 obtain ⟨h6, h7⟩ := h.store hk1 (h.not_own h.labs (by decide)) (fun q hq => (h.labs.lt q hq).1) hy 5 v' rfl
 subst hv
 exact ⟨_, _, _, w5, hr, hk1, h6, h7⟩
theorem DrZ.pushP (h : DrZ w0 w r s) (hl : s.PV.length ≤ 90000) : ∃ a m c w5, (Builtin.append_ #[60, 60] 60 #[s.pv, .slice (some ⟨w.heap.size, 0, none⟩) 1 1]).run Tryz.prog (w.alloc (.cells #[.slice none 0 0] 73)) = .ok (.slice a m c) w5 ∧ Kept (fun q => s.pv.ownBlock = some q) w w5 ∧
  w5.heap[r]? = some (.cells s.cells 63 (0, 0)) ∧ DrZ w0 (w5.setCell ⟨r, 6, none⟩ (.slice a m c)) r { s with PV := s.PV ++ [.slice none 0 0], px := s.px ++ [(0, [])], pv := .slice a m c } := by
 obtain ⟨v', w5, hr, ho, hk0, hk1, hnb⟩ := Zum h.plcs (Value.slice none 0 0) rfl h.kept (by omega)
 obtain ⟨a, c, hv⟩ := Zd ho
 have hc := Yz h.plcs
 have hy : DrY w0 w5 { s with PV := s.PV ++ [.slice none 0 0], px := s.px ++ [(0, [])], pv := v' } := by
  refine ⟨Zi hk1 hc h.data (by decide), Zi hk1 hc h.fns (by decide), h.code.ch hk1 hc (by decide), h.words.ch hk1 hc (by decide), Zi hk1 hc h.labs (by decide), ?_, (h.plc.ch hk1 hc (by decide)).snoc, Zi hk1 hc h.wts (by decide)⟩
  show w5.ownsRow _ _ _ _ (s.PV ++ [Value.slice none 0 0]).length _
  rw [List.length_append]
  exact ho
 obtain ⟨h6, h7⟩ := h.store hk1 (h.not_own h.plcs (by decide)) (fun q hq => (h.plcs.lt q hq).1) hy 6 v' rfl
 subst hv
 exact ⟨_, _, _, w5, hr, hk1, h6, h7⟩
theorem DrZ.strs (h : DrZ w0 w r (shR R CV LV PV dv fv nv lv pv wv)) : Zkc w nv (R.fs.map Fnc.nm) := Ze2 (B := w0.heap.size) (by
 have h1 := h.names
 have e : R.fs.map nmC = labs (R.fs.map Fnc.nm) := by unfold labs nmC; rw [List.map_map]; rfl
 rw [List.length_map, ← e]
 exact h1)
theorem Zv5 (R : Rdr) (CV LV PV : List Value) (dv fv nv lv pv wv : Value) (x : ByteArray) (n0 n1 n2 : Int) (fv' nv' lv' pv' : Value) (hc : CV.length = R.fs.length) :
  ({ shR R CV LV PV dv fv nv lv pv wv with nx := (R.fs.length + 1, R.fs.map nmC ++ [.string x]), nv := nv', nf := R.fs.length + 1, FC := Zw R.fs CV ++ [.int .i64 n0, .int .i64 n1, .int .i64 n2, .slice none 0 0], fv := fv', CV := CV ++ [.slice none 0 0], cx := R.fs.map Yj ++ [(0, [])], LV := LV ++ [.slice none 0 0], lx := R.fs.map Zbm ++ [(0, [])], lv := lv', PV := PV ++ [.slice none 0 0], px := R.fs.map Zby ++ [(0, [])], pv := pv' } : Shp) =
   shR ⟨R.mem, R.sized, R.data, R.fs ++ [⟨x, n0, n1, n2, [], []⟩], R.ws⟩ (CV ++ [.slice none 0 0]) (LV ++ [.slice none 0 0]) (PV ++ [.slice none 0 0]) dv fv' nv' lv' pv' wv := by
 unfold shR
 rw [Zbu R.fs CV _ _ hc]
 simp [Yj, nmC, Zbm, Zby, fnC, Zn]
end Go.Proofs.YtgoabnehdmdikaaGreatDoor

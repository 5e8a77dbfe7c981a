import Derived.Test.YtgoabnehdmdikaaGreatDoorTLg29
import Derived.Test.YtgoabnehdmdikaaGreatDoorTLg2
set_option linter.unusedVariables false
set_option linter.unusedSimpArgs false
set_option maxRecDepth 100000
set_option maxHeartbeats 64000000
namespace Go.Proofs.YtgoabnehdmdikaaGreatDoor
open Go.RowKit
theorem Zur {ds : List Pf} {y : SD} (h : Yt ds = some y) : y.op < 46 := by
 have hc : ∀ (ls : List ByteArray) (l : List Pf) (b : Bool) (z : SD), Wh ls l b = some z → z.op < 46 := fun ls l b z hz => by
  unfold Wh at hz
  cases hi : Zas l with
  | none => rw [hi] at hz; cases hz
  | some q =>
   obtain ⟨op, a, wd⟩ := q
   rw [hi] at hz
   cases hz
   show op < 46
   by_cases hl : l = []
   ·subst hl
    cases hi
    decide
   ·exact (Ze4 hi hl).2.1
 unfold Yt at h
 split at h
 ·cases h; decide
 ·split at h
  ·unfold Zek at h
   split at h
   ·cases h
   ·split at h
    ·unfold Zdh at h
     repeat' split at h
     all_goals first
      | (cases h; done)
      | (cases h; show (0 : Int) < 46; decide)
      | exact hc _ _ _ _ h
      | (
        unfold Zgp at h
        repeat' split at h
        all_goals first
         | (cases h; done)
         | (cases h; show (0 : Int) < 46; decide))
    ·exact hc _ _ _ _ h
  ·exact hc _ _ _ _ h
theorem Zrw {w : World} {B e s n : Nat} {v : Value} {xs : List Value} (h : w.ownsRow B e s v n xs) : ∀ g, v.ownBlock = some g → ∃ cs, w.heap[g]? = some (.cells cs e (0, 0)) := fun g hg => by
 rcases h.2 with ⟨rfl, _⟩ | ⟨g', cap, cur, rfl, _, hgg, _⟩
 ·cases hg
 ·simp [Value.ownBlock] at hg
  subst hg
  exact ⟨_, hgg⟩
variable {w0 wb w : World} {r : Nat} {R : Rdr}
theorem Zo9 (hG : DrG w0 wb r R) (hk : Kept nF wb w) (x : SL) (y : SD) (hx : SLis wb.heap.size w x y) (hl : R.fs.length ≤ 80000) (hf : ∀ f ∈ R.fs, f.ls.length + y.ls.length ≤ 80000 ∧ f.code.length ≤ 80000) (hw : R.ws.length ≤ 80000) (hd : R.data.length ≤ 100000000000000) (hs : y.dt.size ≤ 65536) (ho : y.op < 46) (ln : Int) :
  Calls Tryz.prog 22 #[.pointer (some ⟨r, 0, none⟩), .agg x.cells, .int .i64 ln] w (Zdq w0 r (Yn R ln y)) := by
 obtain ⟨CV, LV, PV, dv, fv, nv, lv, pv, wv, hZ0⟩ := hG
 have hZ := hZ0.same hk
 obtain ⟨la, lc, hlv⟩ := Zd hx.ls
 obtain ⟨xk, xlv, xnm, x0, x1, x2, xdt, xop, xa, xwd, xbig⟩ := x
 obtain ⟨yk, ls, ynm, y0, y1, y2, ydt, yop, ya, ywd, ybig⟩ := y
 obtain ⟨e1, e2, e3, e4, e5, e6, e7, e8, e9, e10, hrow⟩ := hx
 simp only at e1 e2 e3 e4 e5 e6 e7 e8 e9 e10 hrow hlv hs ho hf
 subst e1 e2 e3 e4 e5 e6 e7 e8 e9 e10 hlv
 show Calls Tryz.prog 22 #[.pointer (some ⟨r, 0, none⟩), .agg #[.int .i64 xk, .slice la ls.length lc, .string xnm, .int .i64 x0, .int .i64 x1, .int .i64 x2, .string xdt, .int .i64 xop, .int .i64 xa, .string xwd, .bool xbig], .int .i64 ln] w _
 by_cases hfit : Xw R xk = true
 ·by_cases hb : xbig = true
  ·subst hb
   rw [Zrq (y := ⟨xk, ls, xnm, x0, x1, x2, xdt, xop, xa, xwd, true⟩) hfit rfl]
   exact Zoz hZ (by omega) xk x0 x1 x2 xop xa ln la ls.length lc xnm xdt xwd hfit
  have hb : xbig = false := by simpa using hb
  subst hb
  by_cases k1 : xk = 1
  ·subst k1
   have e : Yn R ln ⟨1, ls, xnm, x0, x1, x2, xdt, xop, xa, xwd, false⟩ = .good ⟨x0, true, R.data, R.fs, R.ws⟩ := by
    unfold Xw at hfit
    rw [if_pos rfl] at hfit
    unfold Yn
    rw [if_pos rfl, if_neg (by simpa using hfit), if_neg (by simp)]
   rw [e]
   exact Zo0 hZ (by omega) x0 x1 x2 xop xa ln la ls.length lc xnm xdt xwd hfit
  by_cases k2 : xk = 2
  ·subst k2
   have e : Yn R ln ⟨2, ls, xnm, x0, x1, x2, xdt, xop, xa, xwd, false⟩ = .good ⟨R.mem, R.sized, R.data ++ Xy xdt, R.fs, R.ws⟩ := by
    unfold Xw at hfit
    rw [if_neg (by decide), if_pos rfl] at hfit
    unfold Yn
    simp only
    rw [if_neg (by decide), if_pos trivial, if_neg (by simpa using hfit), if_neg (by simp)]
   rw [e]
   exact Zo1 hZ (by omega) x0 x1 x2 xop xa ln la ls.length lc xnm xdt xwd hfit hd hs
  by_cases k3 : xk = 3
  ·subst k3
   by_cases hdup : (lkA (nmL 0 R.fs) xnm).isSome = true
   ·have e : Yn R ln ⟨3, ls, xnm, x0, x1, x2, xdt, xop, xa, xwd, false⟩ = .bad 142 := by
     unfold Yn
     simp only
     rw [if_neg (by decide), if_neg (by decide), if_pos trivial, if_neg (by simp), if_pos hdup]
    rw [e]
    exact Zo3 hZ (by omega) x0 x1 x2 xop xa ln la ls.length lc xnm xdt xwd hdup
   ·have e : Yn R ln ⟨3, ls, xnm, x0, x1, x2, xdt, xop, xa, xwd, false⟩ = .good ⟨R.mem, R.sized, R.data, R.fs ++ [⟨xnm, x0, x1, x2, [], []⟩], R.ws⟩ := by
     unfold Yn
     simp only
     rw [if_neg (by decide), if_neg (by decide), if_pos trivial, if_neg (by simp), if_neg hdup]
    rw [e]
    exact Zo4 hZ (by omega) x0 x1 x2 xop xa ln la ls.length lc xnm xdt xwd hdup
  by_cases k4 : xk = 4
  ·subst k4
   have hne : R.fs ≠ [] := by
    unfold Xw at hfit
    rw [if_neg (by decide), if_neg (by decide), if_pos rfl] at hfit
    simpa using hfit
   obtain ⟨gs, f, hgf⟩ : ∃ gs f, R.fs = gs ++ [f] := ⟨_, _, (List.dropLast_concat_getLast hne).symm⟩
   have e : Yn R ln ⟨4, ls, xnm, x0, x1, x2, xdt, xop, xa, xwd, false⟩ = Zbl R ln ⟨4, ls, ⟨#[]⟩, 0, 0, 0, ⟨#[]⟩, xop, xa, xwd, false⟩ gs f := by
    unfold Yn
    simp only
    rw [if_neg (by decide), if_neg (by decide), if_neg (by decide), if_pos trivial, hgf]
    simp [Zbl]
   rw [e]
   obtain ⟨f1, f2⟩ := hf f (by rw [hgf]; simp)
   refine Zo6 hZ (by omega) x0 x1 x2 xop xa ln la ls.length lc xnm xdt xwd gs f hgf ls rfl ⟨fun i s his => ?_, fun g hg => ?_, fun g hg v hv hq => ?_⟩ f1 f2 hw ho
   ·rcases Ze2 hrow with ⟨h0, _⟩ | ⟨g, c, hg, hc⟩
    ·rw [h0] at his; simp at his
    ·cases hg
     exact ⟨g, rfl, hc i s his⟩
   ·subst hg
    obtain ⟨cs, fz, h9⟩ := Yz hrow g rfl
    rcases Zrw hrow with h8
    exact ⟨(hrow.lt g rfl).2, h8 g rfl⟩
   ·subst hg
    have h1 := (hrow.lt g rfl).1
    obtain ⟨i, hi, e5⟩ := List.getElem_of_mem hv
    have h5 : (nv :: LV)[i + 1]? = some v := by
     rw [List.getElem?_cons_succ, List.getElem?_eq_getElem hi, e5]
    obtain ⟨z, _, hz⟩ := hZ0.words.at h5
    have := (hz.lt g hq).2
    omega
  ·have e : Yn R ln ⟨xk, ls, xnm, x0, x1, x2, xdt, xop, xa, xwd, false⟩ = .good R := by
    unfold Yn
    simp only
    rw [if_neg k1, if_neg k2, if_neg k3, if_neg k4, if_neg (by simp)]
   rw [e]
   exact Znc hZ (by omega) xk x0 x1 x2 xop xa ln la ls.length lc xnm xdt xwd hfit ⟨k1, k2, k3, k4⟩
 ·have hfit : Xw R xk = false := by simpa using hfit
  rw [Znb (y := ⟨xk, ls, xnm, x0, x1, x2, xdt, xop, xa, xwd, xbig⟩) hfit]
  exact Zlj hZ (by omega) xk xbig x0 x1 x2 xop xa ln la ls.length lc xnm xdt xwd hfit
end Go.Proofs.YtgoabnehdmdikaaGreatDoor
namespace Go.Proofs.YtgoabnehdmdikaaGreatDoor
open Go.RowKit
theorem Zis : ∀ (ds : List Pf), 2 * (Yy ds).1.length ≤ ds.length
 | [] => by simp [Yy]
 | [p] => by simp [Yy]
 | p :: q :: l => by
  by_cases h : p.k = 1 ∧ q.k = 4
  ·rw [Zdy p q l h]
   have := Zis l
   simp only [List.length_cons]
   omega
  ·rw [Zc9 p q l h]
   simp
theorem Zus {ls : List ByteArray} {l : List Pf} {b : Bool} {z : SD} (hz : Wh ls l b = some z) : z.ls = ls ∧ z.dt = ⟨#[]⟩ := by
 unfold Wh at hz
 cases hi : Zas l with
 | none => rw [hi] at hz; cases hz
 | some q =>
  obtain ⟨op, a, wd⟩ := q
  rw [hi] at hz
  cases hz
  exact ⟨rfl, rfl⟩
theorem Zut {ds : List Pf} {y : SD} (h : Yt ds = some y) : y.ls.length ≤ (Yy ds).1.length ∧ (y.dt.size = 0 ∨ ∃ d ∈ ds, d.k = 3 ∧ y.dt = d.s) := by
 have hc : ∀ (ls : List ByteArray) (l : List Pf) (b : Bool) (z : SD), Wh ls l b = some z → z.ls = ls ∧ z.dt.size = 0 := fun ls l b z hz => by
  obtain ⟨h1, h2⟩ := Zus hz
  exact ⟨h1, by rw [h2]; rfl⟩
 unfold Yt at h
 split at h
 ·cases h
  exact ⟨Nat.zero_le _, .inl rfl⟩
 ·split at h
  ·rename_i hl
   have e0 := Zgo ds hl
   rw [e0] at h
   unfold Zek at h
   split at h
   ·cases h
   ·rename_i p r
    split at h
    ·unfold Zdh at h
     split at h
     ·split at h
      ·cases h
       exact ⟨Nat.zero_le _, .inl rfl⟩
      ·cases h
     ·split at h
      ·split at h
       ·rename_i hk
        obtain ⟨d, hd, hk3⟩ := Zkg hk
        cases h
        refine ⟨Nat.zero_le _, .inr ⟨d, by rw [hd]; simp, hk3, by rw [hd]; rfl⟩⟩
       ·cases h
      ·split at h
       ·unfold Zgp at h
        split at h
        ·split at h
         ·cases h
          exact ⟨Nat.zero_le _, .inl rfl⟩
         ·cases h
        ·cases h
       ·obtain ⟨h1, h2⟩ := hc _ _ _ _ h
        exact ⟨by rw [h1]; exact Nat.zero_le _, .inl h2⟩
    ·obtain ⟨h1, h2⟩ := hc _ _ _ _ h
     exact ⟨by rw [h1]; exact Nat.zero_le _, .inl h2⟩
  ·obtain ⟨h1, h2⟩ := hc _ _ _ _ h
   exact ⟨by rw [h1]; exact Nat.le_refl _, .inl h2⟩
theorem Zkl : ∀ {ps ds : List Pf}, Sim ps ds → ∀ (N : Nat), (∀ p ∈ ps, p.s.size ≤ N) → ∀ d ∈ ds, d.k = 3 → d.s.size ≤ N
 | _, _, .nil, N, _, d, hd, _ => absurd hd List.not_mem_nil
 | _, _, .cons h1 h2, N, hp, d, hd, hk => by
  rcases List.mem_cons.1 hd with rfl | hd
  ·obtain ⟨a1, a2, _, _⟩ := h1
   rw [a2 (by omega)]
   exact hp _ List.mem_cons_self
  ·exact Zkl h2 N (fun p hpp => hp p (List.mem_cons_of_mem _ hpp)) d hd hk
theorem Zg5 {b : List UInt8} {ps ds : List Pf} {y : SD} (hc : Yc b = some ps) (h : Sim ps ds) (hy : Yt ds = some y) : y.ls.length ≤ b.length ∧ y.dt.size ≤ b.length := by
 obtain ⟨h1, h2⟩ := Zdg hc
 obtain ⟨h3, h4⟩ := Zut hy
 have h5 := Zis ds
 have h6 := h.len
 refine ⟨by omega, ?_⟩
 rcases h4 with h4 | ⟨d, hd, hk, e⟩
 ·omega
 ·rw [e]
  exact Zkl h _ h2 d hd hk
theorem Zuu {R R' : Rdr} {n : Int} {y : SD} {T : Nat} (e : Yn R n y = .good R') (h : ∀ f ∈ R.fs, f.ls.length ≤ T) : ∀ f ∈ R'.fs, f.ls.length ≤ T + y.ls.length := by
 have hw : ∀ f ∈ R.fs, f.ls.length ≤ T + y.ls.length := fun f hf => Nat.le_trans (h f hf) (by omega)
 unfold Yn at e
 split at e
 ·split at e
  ·cases e
  ·split at e
   ·cases e
   ·cases e; exact hw
 ·split at e
  ·split at e
   ·cases e
   ·split at e
    ·cases e
    ·cases e; exact hw
  ·split at e
   ·split at e
    ·cases e
    ·split at e
     ·cases e
     ·cases e
      intro f hf
      rcases List.mem_append.1 hf with hf | hf
      ·exact hw f hf
      ·rw [List.mem_singleton.1 hf]
       exact Nat.zero_le _
   ·split at e
    ·split at e
     ·cases e
     ·rename_i f0 hg
      unfold Zbl at e
      split at e
      ·cases e
      ·split at e
       ·cases e
       ·rename_i g hg2
        have hf0 : f0 ∈ R.fs := List.mem_of_getLast? hg
        obtain ⟨_, hgl⟩ := Zme _ _ _ hg2
        have hgT : g.ls.length ≤ T + y.ls.length := by have := h f0 hf0; omega
        split at e
        ·cases e
         intro f hf
         rcases List.mem_append.1 hf with hf | hf
         ·exact hw f (List.dropLast_subset _ hf)
         ·rw [List.mem_singleton.1 hf]
          exact hgT
        ·cases e
         intro f hf
         rcases List.mem_append.1 hf with hf | hf
         ·exact hw f (List.dropLast_subset _ hf)
         ·rw [List.mem_singleton.1 hf]
          exact hgT
    ·split at e
     ·cases e
     ·cases e; exact hw
theorem Zmg : ∀ (ls : List ByteArray) (f g : Fnc), Xu f ls = some g → (∀ x ∈ f.ls, 0 ≤ x.2) → ∀ x ∈ g.ls, 0 ≤ x.2
 | [], f, g, h, hf => by
  rw [Xu] at h
  cases h
  exact hf
 | s :: ss, f, g, h, hf => by
  rw [Xu] at h
  split at h
  ·cases h
  ·refine Zmg ss _ g h (fun x hx => ?_)
   rcases List.mem_append.1 hx with hx | hx
   ·exact hf x hx
   ·rw [List.mem_singleton.1 hx]
    exact Int.natCast_nonneg _
theorem Zuv {R R' : Rdr} {n : Int} {y : SD} (e : Yn R n y = .good R') (h : ∀ f ∈ R.fs, ∀ x ∈ f.ls, 0 ≤ x.2) : ∀ f ∈ R'.fs, ∀ x ∈ f.ls, 0 ≤ x.2 := by
 unfold Yn at e
 split at e
 ·split at e
  ·cases e
  ·split at e
   ·cases e
   ·cases e; exact h
 ·split at e
  ·split at e
   ·cases e
   ·split at e
    ·cases e
    ·cases e; exact h
  ·split at e
   ·split at e
    ·cases e
    ·split at e
     ·cases e
     ·cases e
      intro f hf
      rcases List.mem_append.1 hf with hf | hf
      ·exact h f hf
      ·rw [List.mem_singleton.1 hf]
       exact fun x hx => absurd hx List.not_mem_nil
   ·split at e
    ·split at e
     ·cases e
     ·rename_i f0 hg
      unfold Zbl at e
      split at e
      ·cases e
      ·split at e
       ·cases e
       ·rename_i g hg2
        have hf0 : f0 ∈ R.fs := List.mem_of_getLast? hg
        have hgT := Zmg _ _ _ hg2 (h f0 hf0)
        split at e
        ·cases e
         intro f hf
         rcases List.mem_append.1 hf with hf | hf
         ·exact h f (List.dropLast_subset _ hf)
         ·rw [List.mem_singleton.1 hf]
          exact hgT
        ·cases e
         intro f hf
         rcases List.mem_append.1 hf with hf | hf
         ·exact h f (List.dropLast_subset _ hf)
         ·rw [List.mem_singleton.1 hf]
          exact hgT
    ·split at e
     ·cases e
     ·cases e; exact h
theorem Zrx {fs : List Fnc} {x : Wt} (hj : x.jump = false) : (wtL fs x = none ∧ Zbk (fs.map Fnc.nm) x.nm 0 = -1) ∨ ∃ k : Nat, wtL fs x = some (k : Int) ∧ Zbk (fs.map Fnc.nm) x.nm 0 = (k : Int) := by
 unfold wtL
 rw [hj, if_neg (by simp)]
 have h := Zem (nmL 0 fs) x.nm 0
 rw [Zf8] at h
 rcases h with h | ⟨k, v, h1, h2, h3⟩
 ·exact .inl h
 ·have hv := Zo2 0 k fs _ _ h3
  rw [Nat.zero_add] at hv h2
  exact .inr ⟨k, by rw [h1, hv], h2⟩
theorem Zry {fs : List Fnc} {x : Wt} {f : Fnc} (hj : x.jump = true) (hf : fs[x.fn]? = some f) : (wtL fs x = none ∧ Zbk (f.ls.map Prod.fst) x.nm 0 = -1) ∨ ∃ (k : Nat) (v : Int), wtL fs x = some v ∧ Zbk (f.ls.map Prod.fst) x.nm 0 = (k : Int) ∧ k < f.ls.length ∧ (f.ls.map Prod.snd)[k]? = some v := by
 unfold wtL
 rw [hj, if_pos rfl, hf]
 rcases Zem f.ls x.nm 0 with h | ⟨k, v, h1, h2, h3⟩
 ·exact .inl h
 ·rw [Nat.zero_add] at h2
  exact .inr ⟨k, v, h1, h2, (List.getElem?_eq_some_iff.1 h3).1, by rw [List.getElem?_map, h3]; rfl⟩
end Go.Proofs.YtgoabnehdmdikaaGreatDoor
namespace Go.Proofs.YtgoabnehdmdikaaGreatDoor
open Go.RowKit
variable {w0 w : World} {r : Nat} {R : Rdr} {CV LV PV : List Value} {dv fv nv lv pv wv : Value}
theorem DrZ.fill (h : DrZ w0 w r (shR R CV LV PV dv fv nv lv pv wv)) {k p : Nat} {f : Fnc} (hf : R.fs[k]? = some f) (hp : p < f.code.length) {cv : Value} (hcv : CV[k]? = some cv) (gc c : Nat) (hgc : cv = .slice (some ⟨gc, 0, none⟩) f.code.length c) (v : Int) :
  DrZ w0 (w.setCell ⟨gc, p * 2 + 1, none⟩ (.int .i64 v)) r (shR ⟨R.mem, R.sized, R.data, Yq R.fs k p v, R.ws⟩ CV LV PV dv fv nv lv pv wv) ∧ w0.heap.size ≤ gc := by
 have hco : w.ownsRow w0.heap.size 75 2 cv f.code.length (Zn f.code) := h.code.row k cv (Yj f) hcv (by show (R.fs.map Yj)[k]? = _; rw [List.getElem?_map, hf]; rfl)
 have hco' := hco
 rw [hgc] at hco'
 have hlo := (hco'.lt gc rfl).1
 have hs := Zg w gc (p * 2 + 1) (.int .i64 v)
 have hch : Ch w (fun q => q = gc) 75 := fun q hq => by
  subst hq
  exact Yz hco' _ rfl
 have hst := (hco'.stored (p * 2 + 1) (.int .i64 v)).1
 have hk1 : Kept (fun q => cv.ownBlock = some q) w (w.setCell ⟨gc, p * 2 + 1, none⟩ (.int .i64 v)) := hs.mono (fun q _ e => by rw [hgc, e]; rfl)
 have hF := h.code.set (k := k) hcv hk1 cv (f.code.length, (Zn f.code).set (p * 2 + 1) (.int .i64 v)) (by rw [hgc]; exact hst) (fun q hq => .inl hq)
 have hset : CV.set k cv = CV := by
  apply List.ext_getElem?
  intro i
  by_cases e : k = i
  ·subst e
   rw [List.getElem?_set_self (List.getElem?_eq_some_iff.1 hcv).1, hcv]
  ·rw [List.getElem?_set_ne e]
 have hF : Fam (w.setCell ⟨gc, p * 2 + 1, none⟩ (.int .i64 v)) w0.heap.size 75 2 (CV.set k cv) ((R.fs.map Yj).set k (f.code.length, (Zn f.code).set (p * 2 + 1) (.int .i64 v))) := hF
 rw [hset] at hF
 have hfs : Yq R.fs k p v = R.fs.set k (Zbw f p v) := Zcl hf p v
 have hmap : (R.fs.map Yj).set k (f.code.length, (Zn f.code).set (p * 2 + 1) (.int .i64 v)) = (Yq R.fs k p v).map Yj := by
  rw [hfs, List.map_set]
  congr 1
  unfold Yj Zbw
  simp only [List.length_set]
  rw [Zew f.code p v hp]
 rw [hmap] at hF
 have e : shR ⟨R.mem, R.sized, R.data, Yq R.fs k p v, R.ws⟩ CV LV PV dv fv nv lv pv wv = { shR R CV LV PV dv fv nv lv pv wv with cx := (Yq R.fs k p v).map Yj } := by
  unfold shR
  simp only
  rw [Zbx, Zaw (Yq R.fs k p v) R.fs CV (by rw [hfs]; exact Zam (fun f => (f.a, f.l, f.r)) R.fs k f (Zbw f p v) hf rfl)]
  have e1 : (Yq R.fs k p v).map nmC = R.fs.map nmC := by rw [hfs]; exact Zam nmC R.fs k f (Zbw f p v) hf rfl
  have e2 : (Yq R.fs k p v).map Zbm = R.fs.map Zbm := by rw [hfs]; exact Zam Zbm R.fs k f (Zbw f p v) hf rfl
  have e3 : (Yq R.fs k p v).map Zby = R.fs.map Zby := by rw [hfs]; exact Zam Zby R.fs k f (Zbw f p v) hf rfl
  rw [e1, e2, e3]
 rw [e]
 exact ⟨⟨⟨Zi hs hch h.data (by decide), Zi hs hch h.fns (by decide), hF, h.words.ch hs hch (by decide), Zi hs hch h.labs (by decide), Zi hs hch h.plcs (by decide), h.plc.ch hs hch (by decide), Zi hs hch h.wts (by decide)⟩, Zah hs hch h.box (by decide), h.kept.setCell (.inl hlo) _, h.lo⟩, hlo⟩
end Go.Proofs.YtgoabnehdmdikaaGreatDoor
namespace Go.Proofs.YtgoabnehdmdikaaGreatDoor
open Go.RowKit
def tot (L : List (List UInt8)) : Nat := (L.map List.length).sum
theorem Zds (x : List UInt8) (L : List (List UInt8)) : tot (x :: L) = x.length + tot L := by simp [tot]
theorem Zf9 : ∀ (A B : List (List UInt8)), tot (A ++ B) = tot A + tot B
 | [], B => by simp [tot]
 | a :: A, B => by
  rw [List.cons_append, Zds, Zds, Zf9 A B]
  omega
theorem Zd1 : ∀ (l : List UInt8), tot (Zv l) ≤ l.length
 | [] => by simp [Zv, tot]
 | b :: l => by
  have ih := Zd1 l
  rw [Zv]
  split
  ·rw [Zds]
   simp only [List.length_nil, List.length_cons]
   omega
  ·cases e : Zv l with
   | nil => exact absurd e (Zid l)
   | cons x xs =>
    rw [e, Zds] at ih
    simp only [Zds, List.length_cons]
    omega
theorem Zrz (L : List (List UInt8)) (i : Nat) (x : List UInt8) (h : L[i]? = some x) : tot (L.take (i + 1)) = tot (L.take i) + x.length ∧ tot (L.take i) + x.length ≤ tot L := by
 have h1 : L.take (i + 1) = L.take i ++ [x] := by
  obtain ⟨hi, rfl⟩ := List.getElem?_eq_some_iff.1 h
  exact List.take_succ_eq_append_getElem hi
 have h2 := Zf9 (L.take (i + 1)) (L.drop (i + 1))
 rw [List.take_append_drop, h1, Zf9] at h2
 have h3 : tot [x] = x.length := by simp [tot]
 rw [h1, Zf9, h3]
 exact ⟨rfl, by omega⟩
structure InvD (R : Rdr) (n T : Nat) : Prop where
 inv : Inv R n
 ls : ∀ f ∈ R.fs, f.ls.length ≤ T
 pl : ∀ f ∈ R.fs, ∀ x ∈ f.ls, 0 ≤ x.2
theorem Zpa {R R' : Rdr} {n T : Nat} {ln : Int} {b : List UInt8} {ps ds : List Pf} {y : SD} (h : InvD R n T) (hn : n ≤ 65537) (hb : b.length ≤ 65536) (hc : Yc b = some ps) (hs : Sim ps ds) (hy : Yt ds = some y) (e : Yn R ln y = .good R') : InvD R' (n + 1) (T + b.length) := by
 have e' : Zb3 R ln (Yc b) = .good R' := by rw [Zin R ln hc hs hy, e]
 have h1 := (Zg5 hc hs hy).1
 refine ⟨Zj9 h.inv hn hb e', fun f hf => ?_, Zuv e h.pl⟩
 have := Zuu e h.ls f hf
 omega
theorem Zpb : InvD ⟨0, false, [], [], []⟩ 0 0 := ⟨Inv.first, fun f hf => absurd hf List.not_mem_nil, fun f hf => absurd hf List.not_mem_nil⟩
theorem DrG.first {w0 w : World} {r : Nat} (hb : w.heap[r]? = some (.cells #[.int .i64 0, .slice none 0 0, .slice none 0 0, .bool false, .slice none 0 0, .slice none 0 0, .slice none 0 0, .slice none 0 0] 63 (0, 0))) (hk : Kept nF w0 w) (hl : w0.heap.size ≤ r) : DrG w0 w r ⟨0, false, [], [], []⟩ :=
 ⟨[], [], [], .slice none 0 0, .slice none 0 0, .slice none 0 0, .slice none 0 0, .slice none 0 0, .slice none 0 0, ⟨⟨World.ownsRow_nil _ _ _ _, World.ownsRow_nil _ _ _ _, Fam.nil, Fam.nil.snoc, World.ownsRow_nil _ _ _ _, World.ownsRow_nil _ _ _ _, Fam.nil, World.ownsRow_nil _ _ _ _⟩, hb, hk, hl⟩⟩
theorem DrZ.pg {w0 w : World} {r : Nat} {R : Rdr} {CV LV PV : List Value} {dv fv nv lv pv wv : Value} (h : DrZ w0 w r (shR R CV LV PV dv fv nv lv pv wv)) : PgIs w w.heap.size (.agg #[.int .i64 R.mem, dv, fv]) (pgG R) := by
 refine ⟨dv, fv, rfl, Zbc h.data, fun q hq => (h.data.lt q hq).2, ?_⟩
 have hf : w.ownsRow w0.heap.size 78 4 fv R.fs.length (Zw R.fs CV) := h.fns
 by_cases h0 : R.fs = []
 ·rw [h0] at hf
  rcases hf.2 with ⟨rfl, _⟩ | ⟨g, cap, cur, rfl, _⟩
  ·exact .inl ⟨by simp [pgG, h0], _, _, rfl⟩
  ·exact .inl ⟨by simp [pgG, h0], _, _, rfl⟩
 ·obtain ⟨g, c, cs, hfv, _, _⟩ := Yw hf (List.length_pos_iff.2 h0)
  refine .inr ⟨g, 0, c, by rw [hfv]; simp [pgG], (hf.lt g (by rw [hfv]; rfl)).2, fun i f hi => ?_⟩
  have hi' : (R.fs.map fnG)[i]? = some f := hi
  rw [List.getElem?_map] at hi'
  cases hfi : R.fs[i]? with
  | none => rw [hfi] at hi'; cases hi'
  | some f0 =>
   rw [hfi] at hi'
   cases hi'
   have hil := (List.getElem?_eq_some_iff.1 hfi).1
   have hcl : i < CV.length := by rw [h.clen]; exact hil
   have hcv : CV[i]? = some (CV[i]'hcl) := List.getElem?_eq_getElem hcl
   have hco : w.ownsRow w0.heap.size 75 2 (CV[i]'hcl) f0.code.length (Zn f0.code) := h.code.row i _ (Yj f0) hcv (by show (R.fs.map Yj)[i]? = _; rw [List.getElem?_map, hfi]; rfl)
   refine ⟨CV[i]'hcl, fun j v hv => ?_, Zl0 hco, fun q hq _ => (hco.lt q hq).2⟩
   have hj : j < 4 := (List.getElem?_eq_some_iff.1 hv).1
   have := hf.cells (g := g) (by rw [hfv]; rfl) (i * 4 + j) v (by rw [Zal R.fs CV i f0 _ hfi hcv j hj]; exact hv)
   rw [Addr.add_lit, Nat.zero_add] at this
   show w.cell? ⟨g, 0 + i * 4 + j, none⟩ = _
   rw [Nat.zero_add]
   exact this
set_option maxRecDepth 100000 in
theorem Zlk (u : Int) (w : World) (h0 : 0 ≤ u) (h1 : u ≤ 247) :
  Calls Tryz.prog 90 #[.int .u64 u] w fun e w' => ∃ v', e = .returned v' ∧ w'.ownsRow w.heap.size 5 1 v' 1 ([u].map (Value.int .u8)) ∧ Kept nF w w' := by
 go_enter Tryz.func90, Tryz.ntmps90
 go_wp2
 go_ret
 exact ⟨_, rfl, ⟨rfl, .inr ⟨w.heap.size, 1, #[.int .u8 u], rfl, Nat.le_refl _, heap_alloc_new w _, Nat.le_refl _, by decide, rfl, rfl⟩⟩, (Kept.refl _ _).alloc _⟩
set_option maxRecDepth 100000 in
theorem Zpc (u : Int) (n : Nat) (L : List Int) (w : World) (h0 : 247 < u) (h1 : u < 18446744073709551616) (hn : Mth.sz u = n) (hL : Mth.be n u = L) :
  Calls Tryz.prog 90 #[.int .u64 u] w fun e w' => ∃ v', e = .returned v' ∧ w'.ownsRow w.heap.size 5 1 v' (1 + n) (((247 + (n : Int)) :: L).map (Value.int .u8)) ∧ Kept nF w w' := by
 have HN := Za hn
 have HL := Za hL
 clear hn hL
 obtain ⟨i0, hi, hz0, hz1, hz2⟩ := info_parts Tryz.info5
 go_enter Tryz.func90, Tryz.ntmps90
 go_wp2
 go_loopw [3, 4] (fun v i wr => ∃ m : Nat, m ≤ 8 ∧ i = .int .i64 ((m : Int) - 1) ∧ Out w wr v (u / (256 : Int) ^ m)) (fun _ i _ => (intOf i + 1).toNat)
 case atStart =>
  refine ⟨8, by omega, rfl, ?_⟩
  have e : u / (256 : Int) ^ 8 = 0 := Int.ediv_eq_zero_of_lt (by omega) (by simpa using h1)
  rw [e]
  exact ⟨World.ownsRow_nil _ _ _ _, Kept.refl _ _⟩
 case round =>
  obtain ⟨m, hm, rfl, hO⟩ := hrel
  cases m with
  | zero =>
   rw [show (((0 : Nat) : Int) - 1) = -1 from rfl]
   have e : u / (256 : Int) ^ 0 = u := by simp
   have hlm := Mth.be_length (Mth.sz u) u
   have hsl := Mth.sz_le u
   have hsp : 1 ≤ Mth.sz u := by have := Mth.sz_cases u; omega
   unfold Out at hO
   rw [e, HN.out, HL.out] at hO
   rw [HN.out, HL.out] at hlm
   rw [HN.out] at hsl hsp
   obtain ⟨g, cap, rfl⟩ : ∃ g cap, u3 = .slice (some ⟨g, 0, none⟩) n cap := by
    rcases hO.1.2 with ⟨_, h⟩ | ⟨g, cap, _, h, _⟩
    ·omega
    ·exact ⟨g, cap, h⟩
   have hsl' : (n : Int) ≤ 8 := by omega
   have hown0 : (wr.alloc (.cells #[.int .u8 (247 + (n : Int))] 5)).ownsRow w.heap.size 5 1 (.slice (some ⟨wr.heap.size, 0, none⟩) 1 1) 1 [.int .u8 (247 + (n : Int))] :=
    ⟨rfl, .inr ⟨wr.heap.size, 1, _, rfl, hO.2.size, heap_alloc_new wr _, Nat.le_refl _, by decide, rfl, rfl⟩⟩
   have hsrc := Zc5 (w := wr.alloc (.cells #[.int .u8 (247 + (n : Int))] 5)) hlm (Zff (hO.1.alloc _))
   have HO := Za hO
   have HOW := Za hown0
   have HSR := Za hsrc
   have hws := hO.2.size
   have HLM := Za hlm
   clear hO e hown0 hsrc hlm
   go_wp2_with (at_builtin; refine wpList_append_own _ rfl (.tmp 37) (.tmp 38) 23 rfl w.heap.size 5 i0 (.int .u8 0) 1 1 Tryz.underlying23 hi hz0 hz1 hz2 rfl (by decide) _ _ _ rfl HOW.out ⟨g, 0, none⟩ n cap (L.map (Value.int .u8)) rfl (by simp [HLM.out]) HSR.out (Zeg L) (by unfold maxLen; omega) (by omega) (by simp; omega) ?_)
   intro v' w' hown' hgrow hnil
   have HK : Hid (Kept nF w w') := (HO.out.2.alloc _).grown hgrow (fun g hg => .inl (by rw [← Option.some.inj hg]; exact hws))
   have HOO := Za hown'
   clear hown' hgrow hnil HO HOW HSR
   go_wp2
   go_ret
   exact ⟨_, rfl, by simpa using HOO.out, HK.out⟩
  | succ p =>
   rw [show (((p + 1 : Nat) : Int) - 1) = (p : Int) from by omega]
   rw [Zra] at hO
   have hd := Zvy u p (by omega)
   have hp8 := Zvh p
   have hsl := Mth.sz_le (u / 256 ^ p / 256)
   have hws := hO.2.size
   have HSTEP : Hid (∀ v v' w' (o : Obj), 1 ≤ u / (256 : Int) ^ p → Out w wr v (u / 256 ^ p / 256) → w'.ownsRow w.heap.size 5 1 v' (Mth.sz (u / 256 ^ p / 256) + 1) ((Mth.be (Mth.sz (u / 256 ^ p / 256)) (u / 256 ^ p / 256)).map (Value.int .u8) ++ [.int .u8 (u / 2 ^ (8 * p) % 256)]) → (wr.alloc o).grownBy w' v.ownBlock → Out w w' v' (u / 256 ^ p)) := by
    intro v v' w' o h1y h2y h3y h4y
    rw [hp8] at h3y
    exact Zrb h1y (by omega) h2y h3y h4y
   by_cases hq : 1 ≤ u / 256 ^ p / 256
   ·have hs : (0 : Int) < (Mth.sz (u / 256 ^ p / 256) : Int) := by have := Mth.sz_cases (u / 256 ^ p / 256); omega
    have HY := Za (show 1 ≤ u / (256 : Int) ^ p by omega)
    obtain ⟨ao, cap, rfl⟩ := Zd hO.1
    have HO := Za hO
    clear hO hd hp8 hq
    go_wp2_with (at_builtin; refine wpList_append_own _ rfl (.tmp 28) (.tmp 30) 23 rfl w.heap.size 5 i0 (.int .u8 0) 1 1 Tryz.underlying23 hi hz0 hz1 hz2 rfl (by decide) _ _ _ rfl (HO.out.1.alloc _) ⟨wr.heap.size, 0, none⟩ 1 1 [.int .u8 (u / 2 ^ (8 * p) % 256)] rfl rfl (cell_one_new _ _ _) (by intro u hu; simp at hu; subst hu; rfl) (by unfold maxLen; omega) (by omega) (by simp; omega) ?_)
    intro v' w' hown' hgrow hnil
    have R := Za (HSTEP.out _ _ _ _ HY.out HO.out hown' hgrow)
    clear hown' hgrow hnil HO HSTEP HY
    go_wp2
    go_roundw
    case rel => exact ⟨p, by omega, rfl, R.out⟩
    case measure => simp [intOf]
   ·have hq0 : u / 256 ^ p / 256 = 0 := by omega
    rw [hq0] at hO HSTEP
    obtain ⟨ao, cap, rfl⟩ := Zd (show wr.ownsRow w.heap.size 5 1 u3 0 _ from hO.1)
    by_cases hx : u / 2 ^ (8 * p) % 256 = 0
    ·have hxb : (u / 2 ^ (8 * p) % 256 != 0) = false := by simp [hx]
     have R : Hid (Out w wr (.slice ao 0 cap) (u / 256 ^ p)) := by
      rw [hp8] at hx
      have e : u / 256 ^ p = 0 := by omega
      rw [e]
      exact hO
     clear hO hd hp8 hq hq0 hx HSTEP
     go_wp2
     go_roundw
     case rel => exact ⟨p, by omega, rfl, R.out⟩
     case measure => simp [intOf]
    ·have hxb : (u / 2 ^ (8 * p) % 256 != 0) = true := by simp [hx]
     have HY := Za (show 1 ≤ u / (256 : Int) ^ p by rw [hp8] at hx; omega)
     have HO := Za hO
     have HO1 := Za (show wr.ownsRow w.heap.size 5 1 (.slice ao 0 cap) 0 [] from hO.1)
     clear hO hd hp8 hq hq0 hx
     go_wp2_with (at_builtin; refine wpList_append_own _ rfl (.tmp 28) (.tmp 30) 23 rfl w.heap.size 5 i0 (.int .u8 0) 1 1 Tryz.underlying23 hi hz0 hz1 hz2 rfl (by decide) _ _ _ rfl (HO1.out.alloc _) ⟨wr.heap.size, 0, none⟩ 1 1 [.int .u8 (u / 2 ^ (8 * p) % 256)] rfl rfl (cell_one_new _ _ _) (by intro u hu; simp at hu; subst hu; rfl) (by unfold maxLen; omega) (by omega) (by simp; omega) ?_)
     intro v' w' hown' hgrow hnil
     have R := Za (HSTEP.out _ _ _ _ HY.out HO.out (by simpa [Mth.sz, Mth.be] using hown') hgrow)
     clear hown' hgrow hnil HO HSTEP HY
     go_wp2
     go_roundw
     case rel => exact ⟨p, by omega, rfl, R.out⟩
     case measure => simp [intOf]
theorem Zd2 (u : Int) (w : World) (h0 : 0 ≤ u) (h1 : u < 18446744073709551616) :
  Calls Tryz.prog 90 #[.int .u64 u] w fun e w' => ∃ v', e = .returned v' ∧ w'.ownsRow w.heap.size 5 1 v' (Mth.form u).length ((Mth.form u).map (Value.int .u8)) ∧ Kept nF w w' := by
 unfold Mth.form
 by_cases h : u ≤ 247
 ·rw [if_pos h]
  exact Zlk u w h0 h
 ·rw [if_neg h]
  have := Zpc u _ _ w (by omega) h1 rfl rfl
  rw [List.length_cons, Mth.be_length, Nat.add_comm]
  exact this
set_option maxRecDepth 100000 in
theorem Zpd (n : Int) (w : World) (hn : -9223372036854775808 ≤ n) (h1 : n < 9223372036854775808) :
  Calls Tryz.prog 91 #[.int .i64 n] w fun e w' => e = .returned (.int .u64 (Wg n)) ∧ w' = w := by
 unfold Wg
 by_cases h0 : n < 0
 ·rw [if_pos h0]
  go_enter Tryz.func91, Tryz.ntmps91
  go_wp2
  go_ret
  refine ⟨?_, rfl⟩
  exact congrArg (fun x => Ending.returned (Value.int .u64 x)) (by omega)
 ·rw [if_neg h0]
  go_enter Tryz.func91, Tryz.ntmps91
  go_wp2
  go_ret
  exact ⟨rfl, rfl⟩
set_option maxRecDepth 100000 in
theorem Zr0 (k n : Int) (bv : Value) (xs : List Int) (w : World) (hk0 : 1 ≤ k) (hk1 : k ≤ 6) (hn0 : -9223372036854775808 ≤ n) (hn1 : n < 9223372036854775808) (hkn : k = 1 → 0 ≤ n)
  (hx : IsB w bv xs) (hl : xs.length ≤ 65536) :
  Calls Tryz.prog 68 #[.agg #[.int .i64 k, .int .i64 n, bv]] w fun e w' => ∃ v', e = .returned v' ∧ w'.ownsRow w.heap.size 5 1 v' (Zan k n xs).length ((Zan k n xs).map (Value.int .u8)) ∧ Kept nF w w' := by
 obtain ⟨ao, c, hbv⟩ := hx.shape
 have hK : Kept nF w (w.alloc (.cells #[.int .i64 k, .int .i64 n, bv] 146)) := (Kept.refl _ _).alloc _
 have hsz : (w.alloc (.cells #[.int .i64 k, .int .i64 n, bv] 146)).heap.size = w.heap.size + 1 := by simp
 have hxb : IsB (w.alloc (.cells #[.int .i64 k, .int .i64 n, bv] 146)) bv xs := hx.kept hK (fun _ _ f => f)
 have hbox := heap_alloc_new w (.cells #[.int .i64 k, .int .i64 n, bv] 146)
 have hk : k = 1 ∨ k = 2 ∨ k = 3 ∨ k = 4 ∨ k = 5 ∨ k = 6 := by omega
 have HKB := Za hK
 have HXB := Za hxb
 have HSZ := Za hsz
 have HBOX := Za hbox
 clear hx hK hxb hsz hbox hk0 hk1
 subst hbv
 rcases hk with rfl | rfl | rfl | rfl | rfl | rfl
 ·have hf := Za (Zd2 n (w.alloc (.cells #[.int .i64 1, .int .i64 n, .slice ao xs.length c] 146)) (hkn rfl) (by omega))
  have hn2 := hkn rfl
  clear hkn
  go_enter Tryz.func68, Tryz.ntmps68
  go_wp2_with fail
  refine hf.out.mono ?_
  rintro e w1 ⟨v1, rfl, ho, hk1⟩
  rw [HSZ.out] at ho
  have H1 := Za (Zdo ho (Nat.le_succ w.heap.size))
  have H2 := Za (HKB.out.trans hk1)
  clear ho hk1 hf HKB HXB HSZ HBOX
  go_wp2
  go_ret
  exact ⟨v1, rfl, H1.out, H2.out⟩
 ·clear hkn
  have hf := Za (Zpd n (w.alloc (.cells #[.int .i64 2, .int .i64 n, .slice ao xs.length c] 146)) hn0 hn1)
  have hfl := Zf3 n hn0 hn1
  have hf2 := Za (Zd2 (Wg n) (w.alloc (.cells #[.int .i64 2, .int .i64 n, .slice ao xs.length c] 146)) hfl.1 hfl.2)
  clear hfl
  go_enter Tryz.func68, Tryz.ntmps68
  go_wp2_with fail
  refine hf.out.mono ?_
  rintro e w0 ⟨rfl, rfl⟩
  go_wp2_with fail
  refine hf2.out.mono ?_
  rintro e w1 ⟨v1, rfl, ho, hk1⟩
  rw [HSZ.out] at ho
  have H1 := Za (Zdo ho (Nat.le_succ w.heap.size))
  have H2 := Za (HKB.out.trans hk1)
  clear ho hk1 hf hf2 HKB HXB HSZ HBOX
  go_wp2
  go_ret
  exact ⟨v1, rfl, H1.out, H2.out⟩
 ·clear hkn
  by_cases h1 : n = 1
  ·subst h1
   have hw1 := Zhs (w.alloc (.cells #[.int .i64 3, .int .i64 1, .slice ao xs.length c] 146)) (.int .u8 1) w.heap.size (by simp)
   rw [HSZ.out] at hw1
   have HW1 := Za hw1
   clear hw1
   go_enter Tryz.func68, Tryz.ntmps68
   go_wp2
   go_ret
   exact ⟨_, rfl, HW1.out, HKB.out.alloc _⟩
  ·have h1b : (n == 1) = false := by simp [h1]
   have hw1 := Zhs (w.alloc (.cells #[.int .i64 3, .int .i64 n, .slice ao xs.length c] 146)) (.int .u8 0) w.heap.size (by simp)
   rw [HSZ.out] at hw1
   have HW1 := Za hw1
   have he : Zan 3 n xs = [0] := by simp [Zan, h1]
   have HE := Za he
   clear he
   clear hw1
   go_enter Tryz.func68, Tryz.ntmps68
   go_wp2
   go_ret
   rw [HE.out]
   exact ⟨_, rfl, HW1.out, HKB.out.alloc _⟩
 ·clear hkn
  have hf := Za (Zd2 xs.length (w.alloc (.cells #[.int .i64 4, .int .i64 n, .slice ao xs.length c] 146)) (by omega) (by omega))
  have hll : (xs.length : Int) ≤ 65536 := by omega
  go_enter Tryz.func68, Tryz.ntmps68
  go_wp2_with fail
  refine hf.out.mono ?_
  rintro e w1 ⟨v1, rfl, ho, hk1⟩
  rw [HSZ.out] at ho
  have hfl := (Mth.form_length xs.length (by omega)).2
  obtain ⟨v2, w2, hr, h2, h3⟩ := Zf6 w1 v1 _ _ _ 23 (.slice ao xs.length c) xs ho (HXB.out.kept hk1 (fun _ _ f => f)) (by have := hk1.size; rw [HSZ.out] at this; exact this) (by omega)
  have b2 : w1.cell? ⟨w.heap.size, 2, none⟩ = some (.slice ao xs.length c) := by
   rw [Zb _ _ _ _ _ _ ((hk1.block _ (by rw [HSZ.out]; omega) id).trans HBOX.out)]; rfl
  have H1 := Za (Zdo h2 (Nat.le_succ w.heap.size))
  have H2 : Hid (Kept nF w w2) := (HKB.out.trans hk1).grown h3 (fun g hg => .inl (Nat.le_of_succ_le (ho.lt g hg).1))
  have HE : Hid ((Mth.form xs.length ++ xs).length = (Mth.form xs.length).length + xs.length) := List.length_append
  have HR := Za hr
  clear ho hk1 hf HKB HXB HSZ HBOX h2 h3 hr
  go_wp2_with (at_builtin; refine Zej rfl (.tmp 37) (.tmp 39) 23 23 rfl _ _ rfl rfl v2 w2 HR.out ?_)
  go_ret
  refine ⟨v2, rfl, ?_, H2.out⟩
  have H3 := H1.out
  rw [← HE.out] at H3
  exact H3
 ·clear hkn
  have hf := Za (Zd2 xs.length (w.alloc (.cells #[.int .i64 5, .int .i64 n, .slice ao xs.length c] 146)) (by omega) (by omega))
  have hll : (xs.length : Int) ≤ 65536 := by omega
  go_enter Tryz.func68, Tryz.ntmps68
  go_wp2_with fail
  refine hf.out.mono ?_
  rintro e w1 ⟨v1, rfl, ho, hk1⟩
  rw [HSZ.out] at ho
  have hfl := (Mth.form_length xs.length (by omega)).2
  obtain ⟨v2, w2, hr, h2, h3⟩ := Zf6 w1 v1 _ _ _ 23 (.slice ao xs.length c) xs ho (HXB.out.kept hk1 (fun _ _ f => f)) (by have := hk1.size; rw [HSZ.out] at this; exact this) (by omega)
  have b2 : w1.cell? ⟨w.heap.size, 2, none⟩ = some (.slice ao xs.length c) := by
   rw [Zb _ _ _ _ _ _ ((hk1.block _ (by rw [HSZ.out]; omega) id).trans HBOX.out)]; rfl
  have H1 := Za (Zdo h2 (Nat.le_succ w.heap.size))
  have H2 : Hid (Kept nF w w2) := (HKB.out.trans hk1).grown h3 (fun g hg => .inl (Nat.le_of_succ_le (ho.lt g hg).1))
  have HE : Hid ((Mth.form xs.length ++ xs).length = (Mth.form xs.length).length + xs.length) := List.length_append
  have HR := Za hr
  clear ho hk1 hf HKB HXB HSZ HBOX h2 h3 hr
  go_wp2_with (at_builtin; refine Zej rfl (.tmp 37) (.tmp 39) 23 23 rfl _ _ rfl rfl v2 w2 HR.out ?_)
  go_ret
  refine ⟨v2, rfl, ?_, H2.out⟩
  have H3 := H1.out
  rw [← HE.out] at H3
  exact H3
 ·clear hkn
  obtain ⟨v2, w2, hr, h2, h3⟩ := Zf6 (w.alloc (.cells #[.int .i64 6, .int .i64 n, .slice ao xs.length c] 146)) (.slice none 0 0) 0 w.heap.size [] 23 (.slice ao xs.length c) xs (World.ownsRow_nil _ _ _ _) HXB.out (by rw [HSZ.out]; omega) (by omega)
  have H1 := Za h2
  have H2 : Hid (Kept nF w w2) := HKB.out.grown h3 (fun g hg => by cases hg)
  have HR := Za hr
  clear HKB HXB HSZ HBOX h2 h3 hr
  go_enter Tryz.func68, Tryz.ntmps68
  go_wp2_with (at_builtin; refine Zej rfl (.tmp 28) (.tmp 30) 23 23 rfl _ _ rfl rfl v2 w2 HR.out ?_)
  go_ret
  refine ⟨v2, rfl, ?_, H2.out⟩
  have H3 := H1.out
  rw [Nat.zero_add] at H3
  exact H3
end Go.Proofs.YtgoabnehdmdikaaGreatDoor

import Derived.Test.YtpfmhibdmehlcaaGreatDoorTOx33
namespace Go.Proofs.YtpfmhibdmehlcaaGreatDoor
open Go.RowKit
set_option linter.unusedVariables false
set_option linter.unusedSimpArgs false
set_option maxRecDepth 100000
def fulQ (pre : List UInt8) (fns : List FN) (k : Nat) (f : FN) : Fnc := stQ pre (fns.length : Int) (fnN pre k) f (f.code.length + 1) (f.code.length + 1)
def donL (pre : List UInt8) (fns : List FN) (t : Nat) : List Fnc := (List.range t).flatMap (fun k => match fns[k]? with | some f => [fulQ pre fns k f] | none => [])
theorem donL_succ (pre : List UInt8) (fns : List FN) (t : Nat) (f : FN) (h : fns[t]? = some f) : donL pre fns (t + 1) = donL pre fns t ++ [fulQ pre fns t f] := by
 simp [donL, List.range_succ, List.flatMap_append, h]
theorem donL_len (pre : List UInt8) (fns : List FN) : ∀ t, t ≤ fns.length → (donL pre fns t).length = t
 | 0, _ => rfl
 | t + 1, h => by
  obtain ⟨f, hf⟩ : ∃ f, fns[t]? = some f := ⟨_, List.getElem?_eq_getElem (by omega)⟩
  rw [donL_succ pre fns t f hf, List.length_append, donL_len pre fns t (by omega)]
  rfl
theorem donL_at (pre : List UInt8) (fns : List FN) : ∀ t, t ≤ fns.length → ∀ k f, k < t → fns[k]? = some f → (donL pre fns t)[k]? = some (fulQ pre fns k f)
 | 0, _, k, f, h, _ => by omega
 | t + 1, ht, k, f, hk, hf => by
  obtain ⟨g, hg⟩ : ∃ g, fns[t]? = some g := ⟨_, List.getElem?_eq_getElem (by omega)⟩
  have hl := donL_len pre fns t (by omega)
  rw [donL_succ pre fns t g hg]
  by_cases hkt : k < t
  ·rw [List.getElem?_append_left (by omega)]
   exact donL_at pre fns t (by omega) k f hkt hf
  ·obtain rfl : k = t := by omega
   rw [hf] at hg
   cases hg
   rw [List.getElem?_append_right (by omega), hl, Nat.sub_self]
   rfl
theorem donL_nm (pre : List UInt8) (fns : List FN) (t : Nat) (ht : t ≤ fns.length) (i : Nat) (f : Fnc) (h : (donL pre fns t)[i]? = some f) : f.nm = fnN pre (0 + i) := by
 have hi := (List.getElem?_eq_some_iff.1 h).1
 rw [donL_len pre fns t ht] at hi
 obtain ⟨g, hg⟩ : ∃ g, fns[i]? = some g := ⟨_, List.getElem?_eq_getElem (by omega)⟩
 rw [donL_at pre fns t ht i g hi hg] at h
 cases h
 rw [Nat.zero_add]
 rfl
theorem fun_line (pre : List UInt8) (R : Rdr) (n : Int) (k : Nat) (f : FN) (h : lkA (nmL 0 R.fs) (fnN pre k) = none) :
  lineP R n (some [pw funB, pw (fnN pre k), pn f.a, pn f.l, pn f.r]) = .good ⟨R.mem, R.sized, R.data, R.fs ++ [⟨fnN pre k, f.a, f.l, f.r, [], []⟩], R.ws⟩ := by
 have e : labP [pw funB, pw (fnN pre k), pn f.a, pn f.l, pn f.r] = ([], [pw funB, pw (fnN pre k), pn f.a, pn f.l, pn f.r]) := labP_stop _ _ _ (fun e => absurd e.2 (by simp [pw]))
 unfold lineP
 simp only
 rw [e, if_pos rfl]
 unfold headP
 simp only
 have e0 : (pw funB).k = 0 := rfl
 have e1 : (pw funB).s = funB := rfl
 rw [e1, if_neg (by rw [e0]; simp), if_neg (by decide), if_neg (by decide), if_pos rfl]
 unfold funP
 simp only
 have e2 : (pw (fnN pre k)).s = fnN pre k := rfl
 rw [e2, h]
 simp [pw, pn]
theorem fns_run (pre : List UInt8) (fns : List FN) (hfl : fns.length ≤ 64) (hg : ∀ f ∈ fns, f.code.length ≤ 4096 ∧ ∀ y ∈ f.code, errI y = 0) (mem : Int) (data : List Int) (n0 : Int) :
  ∀ t, t ≤ fns.length → ∃ ws1, linesQ ⟨mem, true, data, [], []⟩ n0 (fnsP pre (fns.length : Int) fns t) = .inr ⟨mem, true, data, donL pre fns t, ws1⟩ ∧ WSq pre fns ws1 t 0
 | 0, _ => ⟨[], rfl, fun w hw => absurd hw List.not_mem_nil, fun t f j x _ _ h => by rcases h with h | ⟨_, h⟩ <;> omega⟩
 | t + 1, ht => by
  obtain ⟨ws1, h1, h2⟩ := fns_run pre fns hfl hg mem data n0 t (by omega)
  obtain ⟨f, hf⟩ : ∃ f, fns[t]? = some f := ⟨_, List.getElem?_eq_getElem (by omega)⟩
  obtain ⟨hg1, hg2⟩ := hg f (List.mem_of_getElem? hf)
  have hl := donL_len pre fns t (by omega)
  rw [fnsP_succ, linesQ_app, h1]
  simp only
  generalize n0 + ((fnsP pre (fns.length : Int) fns t).length : Int) = n1
  unfold fnAtP
  rw [hf]
  simp only
  unfold fnP
  rw [linesQ_one (fun_line pre _ n1 t f (nm_no pre _ 0 t (fun i g h => donL_nm pre fns t (by omega) i g h) (by show 0 + (donL pre fns t).length ≤ t; omega) (by omega)))]
  obtain ⟨ws2, h3, h4⟩ := body_run pre fns t f hf hg2 hg1 (donL pre fns t) hl mem true data (fnN pre t) (n1 + 1) ws1 h2 (f.code.length + 1) (Nat.le_refl _)
  refine ⟨ws2, ?_, h4.ok, fun s g j x hs hj hor hw => ?_⟩
  ·rw [donL_succ pre fns t f hf]
   exact h3
  ·refine h4.all s g j x hs hj ?_ hw
   rcases hor with h | ⟨_, h⟩
   ·by_cases hst : s < t
    ·exact .inl hst
    ·obtain rfl : s = t := by omega
     rw [hf] at hs
     cases hs
     have := (List.getElem?_eq_some_iff.1 hj).1
     exact .inr ⟨rfl, by omega⟩
   ·omega
theorem bytI_str (xs : List Int) (h : ∀ x ∈ xs, 0 ≤ x ∧ x ≤ 255) : bytI (str xs) = xs := by
 unfold bytI str
 rw [fold_data]
 show (([] : List UInt8) ++ _).map _ = _
 rw [List.nil_append, List.map_map]
 conv => rhs; rw [← List.map_id xs]
 refine List.map_congr_left (fun x hx => ?_)
 have := h x hx
 show ((UInt8.ofNat x.toNat).toNat : Int) = x
 rw [UInt8.toNat_ofNat']
 omega
theorem prog_run (pre : List UInt8) (p : PG) (hg : PgGood p) (hd : ∀ x ∈ p.data, 0 ≤ x ∧ x ≤ 255) : ∃ ws, linesQ R0 1 (progP pre p) = .inr ⟨p.mem, true, p.data, donL pre p.fns p.fns.length, ws⟩ ∧ WSq pre p.fns ws p.fns.length 0 := by
 unfold progP
 have hm : lineP R0 1 (some [pw memB, pn p.mem]) = .good ⟨p.mem, true, [], [], []⟩ := by
  have e : labP [pw memB, pn p.mem] = ([], [pw memB, pn p.mem]) := labP_stop _ _ _ (fun e => absurd e.2 (by simp [pn]))
  unfold lineP
  simp only
  rw [e, if_pos rfl]
  unfold headP
  simp only
  have e0 : (pw memB).k = 0 := rfl
  have e1 : (pw memB).s = memB := rfl
  rw [e1, if_neg (by rw [e0]; simp), if_pos rfl]
  simp [memP, pn, R0]
 rw [linesQ_one hm]
 have hdat : ∃ n2, linesQ ⟨p.mem, true, [], [], []⟩ (1 + 1) (datQ p.data) = .inr ⟨p.mem, true, p.data, [], []⟩ ∧ n2 = 1 + 1 + ((datQ p.data).length : Int) := by
  refine ⟨_, ?_, rfl⟩
  unfold datQ
  by_cases h0 : p.data.length = 0
  ·rw [if_pos h0]
   have : p.data = [] := List.length_eq_zero_iff.1 h0
   rw [this]
   rfl
  ·rw [if_neg h0]
   have hl : lineP ⟨p.mem, true, [], [], []⟩ (1 + 1) (some [pw datB, pq p.data]) = .good ⟨p.mem, true, p.data, [], []⟩ := by
    have e : labP [pw datB, pq p.data] = ([], [pw datB, pq p.data]) := labP_stop _ _ _ (fun e => absurd e.2 (by simp [pq]))
    unfold lineP
    simp only
    rw [e, if_pos rfl]
    unfold headP
    simp only
    have e0 : (pw datB).k = 0 := rfl
    have e1 : (pw datB).s = datB := rfl
    rw [e1, if_neg (by rw [e0]; simp), if_neg (by decide), if_pos rfl]
    unfold datP
    rw [if_neg (by simp [pq])]
    simp [pq, bytI_str p.data hd]
   rw [linesQ_one hl]
   rfl
 obtain ⟨n2, hdat, hn2⟩ := hdat
 rw [linesQ_app, hdat]
 simp only
 rw [← hn2]
 obtain ⟨ws, h1, h2⟩ := fns_run pre p.fns hg.fns.2 hg.fn p.mem p.data n2 p.fns.length (Nat.le_refl _)
 refine ⟨ws, ?_, h2⟩
 rw [linesQ_app, h1]
 simp only
 rw [linesQ_one (R' := ⟨p.mem, true, p.data, donL pre p.fns p.fns.length, ws⟩) (by simp [lineP, labP, headP])]
 rfl
structure Lk (pre : List UInt8) (fns : List FN) (fs : List Fnc) (ws : List Wt) : Prop where
 len : fs.length = fns.length
 at_ : ∀ (k : Nat) (f : Fnc), fs[k]? = some f → ∃ g, fns[k]? = some g ∧ f.nm = fnN pre k ∧ f.a = g.a ∧ f.l = g.l ∧ f.r = g.r ∧ f.ls = lsQ pre (aimsD g.code) (g.code.length + 1) ∧ f.code.length = g.code.length ∧
  ∀ (j : Nat) (x : IN), g.code[j]? = some x → ∃ y, f.code[j]? = some y ∧ y.op = x.op ∧ (y.a = x.a ∨ ∃ w ∈ ws, w.fn = k ∧ w.pl = j)
theorem lk_first (pre : List UInt8) (fns : List FN) (ws : List Wt) (hw : WSq pre fns ws fns.length 0) : Lk pre fns (donL pre fns fns.length) ws := by
 refine ⟨donL_len pre fns _ (Nat.le_refl _), fun k f hf => ?_⟩
 have hk := (List.getElem?_eq_some_iff.1 hf).1
 rw [donL_len pre fns _ (Nat.le_refl _)] at hk
 obtain ⟨g, hg⟩ : ∃ g, fns[k]? = some g := ⟨_, List.getElem?_eq_getElem hk⟩
 rw [donL_at pre fns _ (Nat.le_refl _) k g hk hg] at hf
 cases hf
 refine ⟨g, hg, rfl, rfl, rfl, rfl, rfl, ?_, fun j x hx => ?_⟩
 ·unfold fulQ stQ
  simp only [List.length_map, List.length_take]
  omega
 ·have hj := (List.getElem?_eq_some_iff.1 hx).1
  refine ⟨codQ (g.code.length : Int) (fns.length : Int) x, ?_, rfl, ?_⟩
  ·unfold fulQ stQ
   simp only
   rw [List.getElem?_map, List.take_of_length_le (by omega), hx]
   rfl
  ·by_cases hwt : waitB x (g.code.length : Int) (fns.length : Int) = true
   ·exact .inr (hw.all k g j x hg hx (.inl hk) hwt)
   ·left
    unfold codQ
    simp only
    rw [if_neg hwt]
theorem Lk.look {pre : List UInt8} {fns : List FN} {fs : List Fnc} {ws : List Wt} (h : Lk pre fns fs ws) (hfl : fns.length ≤ 64) (hcl : ∀ f ∈ fns, f.code.length ≤ 4096) {w : Wt} (hw : WQ pre fns w) : ∃ f x, fns[w.fn]? = some f ∧ f.code[w.pl]? = some x ∧ wtL fs w = some x.a := by
 obtain ⟨g, x, h1, h2, h3⟩ := hw
 refine ⟨g, x, h1, h2, ?_⟩
 have hk := (List.getElem?_eq_some_iff.1 h1).1
 have hgl := hcl g (List.mem_of_getElem? h1)
 rcases h3 with ⟨j1, j2, j3, j4, j5⟩ | ⟨j1, j2, j3, j4, j5⟩
 ·unfold wtL
  rw [if_pos j1]
  obtain ⟨f, hf⟩ : ∃ f, fs[w.fn]? = some f := ⟨_, List.getElem?_eq_getElem (by rw [h.len]; exact hk)⟩
  obtain ⟨g', e1, -, -, -, -, e2, -⟩ := h.at_ _ _ hf
  rw [h1] at e1
  cases e1
  rw [hf]
  simp only
  rw [e2, j5, lk_yes pre _ _ _ (by omega) (by omega) (aims_true (List.mem_of_getElem? h2) j2 j3 j4)]
  congr 1
  omega
 ·unfold wtL
  rw [j1, if_neg (by simp), j5]
  have := nm_yes pre fs 0 x.a.toNat (fun i f hf => by
   obtain ⟨_, _, e, _⟩ := h.at_ i f hf
   rw [Nat.zero_add]
   exact e) (by rw [h.len]; omega) (by rw [h.len]; omega)
  rw [Nat.zero_add] at this
  rw [this]
  congr 1
  omega
theorem settle_run (pre : List UInt8) (fns : List FN) (hfl : fns.length ≤ 64) (hcl : ∀ f ∈ fns, f.code.length ≤ 4096) : ∀ (ws : List Wt) (fs : List Fnc), Lk pre fns fs ws → (∀ w ∈ ws, WQ pre fns w) → ∃ fs', settleF ws fs = .inr fs' ∧ Lk pre fns fs' []
 | [], fs, h, _ => ⟨fs, rfl, h⟩
 | w :: ws, fs, h, hw => by
  obtain ⟨g, x, h1, h2, h3⟩ := h.look hfl hcl (hw w List.mem_cons_self)
  rw [settleF, h3]
  simp only
  refine settle_run pre fns hfl hcl ws _ ⟨by rw [setA_len]; exact h.len, fun k f hf => ?_⟩ (fun v hv => hw v (List.mem_cons_of_mem _ hv))
  have hk := (List.getElem?_eq_some_iff.1 h1).1
  obtain ⟨f0, hf0⟩ : ∃ f, fs[w.fn]? = some f := ⟨_, List.getElem?_eq_getElem (by rw [h.len]; exact hk)⟩
  rw [setA_some hf0] at hf
  by_cases hkw : w.fn = k
  ·subst hkw
   rw [List.getElem?_set_self (List.getElem?_eq_some_iff.1 hf0).1] at hf
   cases hf
   obtain ⟨g', e0, e1, e2, e3, e4, e5, e6, e7⟩ := h.at_ _ _ hf0
   refine ⟨g', e0, e1, e2, e3, e4, e5, ?_, fun j y hy => ?_⟩
   ·show (f0.code.set _ _).length = _
    rw [List.length_set]
    exact e6
   ·obtain ⟨z, z1, z2, z3⟩ := e7 j y hy
    rw [h1] at e0
    cases e0
    by_cases hj : w.pl = j
    ·subst hj
     rw [h2] at hy
     cases hy
     refine ⟨⟨(f0.code.getD w.pl ⟨0, 0⟩).op, x.a⟩, ?_, ?_, .inl rfl⟩
     ·show (f0.code.set _ _)[_]? = _
      rw [List.getElem?_set_self (List.getElem?_eq_some_iff.1 z1).1]
     ·show (f0.code.getD w.pl ⟨0, 0⟩).op = _
      rw [List.getD, z1]
      exact z2
    ·refine ⟨z, ?_, z2, ?_⟩
     ·show (f0.code.set _ _)[_]? = _
      rw [List.getElem?_set_ne hj]
      exact z1
     ·rcases z3 with h | ⟨v, hv, e⟩
      ·exact .inl h
      ·rcases List.mem_cons.1 hv with rfl | hv
       ·exact absurd e.2 hj
       ·exact .inr ⟨v, hv, e⟩
  ·rw [List.getElem?_set_ne hkw] at hf
   obtain ⟨g', e0, e1, e2, e3, e4, e5, e6, e7⟩ := h.at_ _ _ hf
   refine ⟨g', e0, e1, e2, e3, e4, e5, e6, fun j y hy => ?_⟩
   obtain ⟨z, z1, z2, z3⟩ := e7 j y hy
   refine ⟨z, z1, z2, ?_⟩
   rcases z3 with h | ⟨v, hv, e⟩
   ·exact .inl h
   ·rcases List.mem_cons.1 hv with rfl | hv
    ·exact absurd e.1 hkw
    ·exact .inr ⟨v, hv, e⟩
theorem Lk.done {pre : List UInt8} {fns : List FN} {fs : List Fnc} (h : Lk pre fns fs []) : fs.map fnG = fns := by
 apply List.ext_getElem?
 intro k
 rw [List.getElem?_map]
 cases hf : fs[k]? with
 | none =>
  have := List.getElem?_eq_none_iff.1 hf
  rw [h.len] at this
  rw [List.getElem?_eq_none_iff.2 this]
  rfl
 | some f =>
  obtain ⟨g, e0, -, e2, e3, e4, -, e6, e7⟩ := h.at_ k f hf
  rw [e0]
  have hc : f.code = g.code := by
   apply List.ext_getElem?
   intro j
   cases hx : g.code[j]? with
   | none =>
    have := List.getElem?_eq_none_iff.1 hx
    exact List.getElem?_eq_none_iff.2 (by omega)
   | some x =>
    obtain ⟨y, y1, y2, y3⟩ := e7 j x hx
    rcases y3 with y3 | ⟨v, hv, _⟩
    ·rw [y1]
     congr 1
     obtain ⟨yo, ya⟩ := y
     obtain ⟨xo, xa⟩ := x
     simp only at y2 y3
     rw [y2, y3]
    ·exact absurd hv List.not_mem_nil
  show some (fnG f) = some g
  congr 1
  obtain ⟨ga, gl, gr, gc⟩ := g
  simp only at e2 e3 e4 hc
  unfold fnG
  rw [e2, e3, e4, hc]
theorem read_prog (pre : List UInt8) (p : PG) (hc : checkP p = 0) (hd : ∀ x ∈ p.data, 0 ≤ x ∧ x ≤ 255) (bs : List UInt8) (hl : bs.length ≤ 65536) (h : (linesL bs).map cutV = (progP pre p).map some) : ∃ R, readP bs = .inr R ∧ pgG R = p := by
 have hg := check_good hc
 obtain ⟨ws, h1, h2⟩ := prog_run pre p hg hd
 obtain ⟨fs', h3, h4⟩ := settle_run pre p.fns hg.fns.2 (fun f hf => (hg.fn f hf).1) ws _ (lk_first pre p.fns ws h2) h2.ok
 have e : pgG ⟨p.mem, true, p.data, fs', ws⟩ = p := by
  unfold pgG
  simp only
  rw [h4.done]
 refine ⟨⟨p.mem, true, p.data, fs', ws⟩, ?_, e⟩
 unfold readP
 rw [if_neg (by omega), linesP_Q _ _ _ _ h, h1]
 simp only
 rw [h3]
 simp only
 rw [e, if_pos hc]
inductive Tk
 | tab
 | sp
 | col
 | w (s : List UInt8)
 | nm (c : UInt8) (k : Nat)
 | num (i : Int)
 | q (xs : List Int)
structure Wy where
 A : List UInt8
 B : List UInt8
 E : List UInt8
def Tk.txt (pre : List UInt8) (y : Wy) : Tk → List UInt8
 | .tab => y.A
 | .sp => 32 :: y.B
 | .col => y.B ++ [58]
 | .w s => s
 | .nm c k => pre ++ c :: Lib.decDigits k
 | .num i => Lib.itoa i
 | .q xs => u8 (quoteA xs)
def Tk.pcs (pre : List UInt8) : Tk → List Pf
 | .tab => []
 | .sp => []
 | .col => [pc]
 | .w s => [pw ⟨s.toArray⟩]
 | .nm c k => [pw ⟨(pre ++ c :: Lib.decDigits k).toArray⟩]
 | .num i => [pn i]
 | .q xs => [pq xs]
def Tk.ok : Tk → Prop
 | .w s => WordL s
 | .nm c _ => c = 76 ∨ c = 102
 | .num i => I64 i
 | .q xs => ∀ x ∈ xs, 0 ≤ x ∧ x ≤ 255
 | _ => True
def Tk.hard : Tk → Bool
 | .tab => false
 | .sp => false
 | .col => false
 | _ => true
def lin : Bool → List Tk → Prop
 | _, [] => True
 | true, .sp :: ts => lin false ts
 | true, .col :: ts => lin false ts
 | false, .tab :: ts => lin false ts
 | false, t :: ts => t.hard = true ∧ t.ok ∧ lin true ts
 | true, _ :: _ => False
structure Wy.Ok (y : Wy) : Prop where
 a : ∀ b ∈ y.A, blankB b
 b : ∀ b ∈ y.B, blankB b
 e : ∃ bl c, y.E = bl ++ c ∧ (∀ b ∈ bl, blankB b) ∧ (c = [] ∨ ∃ c', c = 59 :: c') ∧ ∀ b ∈ c, b ≠ 10
def preOk (pre : List UInt8) : Prop := pre = [] ∨ WordL pre
theorem blank_no {b : UInt8} (h : blankB b) : goP b.toNat = false ∧ b ≠ 10 := by
 rcases h with rfl | rfl | rfl <;> exact ⟨by decide, by decide⟩
theorem dec_go (u : Nat) : ∀ b ∈ Lib.decDigits u, goP b.toNat = true := fun b hb => by
 have := dec_all u b hb
 unfold goP isDP
 simp
 omega
theorem nm_word {pre : List UInt8} (hp : preOk pre) {c : UInt8} (hc : c = 76 ∨ c = 102) (k : Nat) : WordL (pre ++ c :: Lib.decDigits k) := by
 have hcg : goP c.toNat = true ∧ isLP c.toNat = true := by rcases hc with rfl | rfl <;> exact ⟨by decide, by decide⟩
 rcases hp with rfl | ⟨h1, h2, h3⟩
 ·refine ⟨by simp, hcg.2, fun b hb => ?_⟩
  rcases List.mem_cons.1 hb with rfl | hb
  ·exact hcg.1
  ·exact dec_go k b hb
 ·refine ⟨by simp, ?_, fun b hb => ?_⟩
  ·cases pre with
   | nil => exact absurd rfl h1
   | cons x xs => exact h2
  ·rcases List.mem_append.1 hb with hb | hb
   ·exact h3 b hb
   ·rcases List.mem_cons.1 hb with rfl | hb
    ·exact hcg.1
    ·exact dec_go k b hb
theorem fin_tail {y : Wy} (h : y.Ok) (ps : List Pf) (hi : Int) {st : Int} (hs : st = 0 ∨ st = 1) : finL y.E (atR ps st hi) = some ps := by
 obtain ⟨bl, c, e, hb, hc, _⟩ := h.e
 rw [e]
 have hc0 : ∀ st : Int, st = 0 ∨ st = 1 → finL c (atR ps st hi) = some ps := fun st hs => by
  rcases hc with rfl | ⟨c', rfl⟩
  ·exact fin_nil ps hi hs
  ·rw [fin_semi (by decide) (by rcases hs with rfl | rfl <;> simp [atR])]
   exact fin_nil ps hi hs
 by_cases hbl : bl = []
 ·subst hbl
  exact hc0 st hs
 ·rw [fin_blanks ps hi c bl hb hs hbl]
  exact hc0 0 (.inl rfl)
theorem tail_head {y : Wy} (h : y.Ok) : ∀ b r, y.E = b :: r → goP b.toNat = false := by
 obtain ⟨bl, c, e, hb, hc, _⟩ := h.e
 intro b r hbr
 rw [e] at hbr
 cases bl with
 | nil =>
  rcases hc with rfl | ⟨c', rfl⟩
  ·cases hbr
  ·cases hbr
   decide
 | cons x xs =>
  cases hbr
  exact (blank_no (hb _ List.mem_cons_self)).1
theorem rest_head (pre : List UInt8) {y : Wy} (h : y.Ok) : ∀ ts, lin true ts → ∀ b r, ts.flatMap (Tk.txt pre y) ++ y.E = b :: r → goP b.toNat = false
 | [], _, b, r, e => tail_head h b r (by simpa using e)
 | .sp :: ts, _, b, r, e => by
  have : b = 32 := by simp [Tk.txt] at e; exact e.1.symm
  subst this
  decide
 | .col :: ts, _, b, r, e => by
  have e' : y.B ++ (58 :: (ts.flatMap (Tk.txt pre y) ++ y.E)) = b :: r := by rw [← e]; simp [Tk.txt]
  cases hB : y.B with
  | nil =>
   rw [hB] at e'
   cases e'
   decide
  | cons x xs =>
   rw [hB] at e'
   cases e'
   exact (blank_no (h.b _ (by rw [hB]; exact List.mem_cons_self))).1
theorem fin_toks {pre : List UInt8} (hp : preOk pre) {y : Wy} (h : y.Ok) : ∀ (ts : List Tk) (q : Bool), lin q ts → ∀ (ps : List Pf) (hi : Int), finL (ts.flatMap (Tk.txt pre y) ++ y.E) (atR ps (if q then 1 else 0) hi) = some (ps ++ ts.flatMap (Tk.pcs pre))
 | [], q, _, ps, hi => by
  simp only [List.flatMap_nil, List.nil_append, List.append_nil]
  exact fin_tail h ps hi (by cases q <;> simp)
 | .sp :: ts, true, hl, ps, hi => by
  have e : (Tk.sp :: ts).flatMap (Tk.txt pre y) ++ y.E = (32 :: y.B) ++ (ts.flatMap (Tk.txt pre y) ++ y.E) := by simp [Tk.txt]
  rw [e, if_pos rfl, fin_blanks ps hi _ (32 :: y.B) (fun b hb => by rcases List.mem_cons.1 hb with rfl | hb; exact .inr (.inr rfl); exact h.b b hb) (.inr rfl) (by simp)]
  exact fin_toks hp h ts false hl ps hi
 | .col :: ts, true, hl, ps, hi => by
  have e : (Tk.col :: ts).flatMap (Tk.txt pre y) ++ y.E = y.B ++ (58 :: (ts.flatMap (Tk.txt pre y) ++ y.E)) := by simp [Tk.txt]
  rw [e, if_pos rfl]
  have e2 : finL (y.B ++ (58 :: (ts.flatMap (Tk.txt pre y) ++ y.E))) (atR ps 1 hi) = finL (ts.flatMap (Tk.txt pre y) ++ y.E) (atR (ps ++ [pc]) 0 hi) := by
   by_cases hB : y.B = []
   ·rw [hB]
    exact fin_colon ps hi _ (.inr rfl)
   ·rw [fin_blanks ps hi _ y.B h.b (.inr rfl) hB]
    exact fin_colon ps hi _ (.inl rfl)
  rw [e2]
  have := fin_toks hp h ts false hl (ps ++ [pc]) hi
  rw [if_neg (by simp)] at this
  rw [this]
  simp [Tk.pcs]
 | .tab :: ts, false, hl, ps, hi => by
  have e : (Tk.tab :: ts).flatMap (Tk.txt pre y) ++ y.E = y.A ++ (ts.flatMap (Tk.txt pre y) ++ y.E) := by simp [Tk.txt]
  rw [e, if_neg (by simp), fin_blanks0 ps hi _ y.A h.a]
  exact fin_toks hp h ts false hl ps hi
 | .w s :: ts, false, hl, ps, hi => by
  have e : (Tk.w s :: ts).flatMap (Tk.txt pre y) ++ y.E = s ++ (ts.flatMap (Tk.txt pre y) ++ y.E) := by simp [Tk.txt]
  rw [e, if_neg (by simp), fin_word ps hi _ s hl.2.1 (rest_head pre h ts hl.2.2)]
  have := fin_toks hp h ts true hl.2.2 (ps ++ [pw ⟨s.toArray⟩]) hi
  rw [if_pos rfl] at this
  refine this.trans ?_
  simp [Tk.pcs]
 | .nm c k :: ts, false, hl, ps, hi => by
  have e : (Tk.nm c k :: ts).flatMap (Tk.txt pre y) ++ y.E = (pre ++ c :: Lib.decDigits k) ++ (ts.flatMap (Tk.txt pre y) ++ y.E) := by simp [Tk.txt]
  rw [e, if_neg (by simp), fin_word ps hi _ _ (nm_word hp hl.2.1 k) (rest_head pre h ts hl.2.2)]
  have := fin_toks hp h ts true hl.2.2 (ps ++ [pw ⟨(pre ++ c :: Lib.decDigits k).toArray⟩]) hi
  rw [if_pos rfl] at this
  refine this.trans ?_
  simp [Tk.pcs]
 | .num i :: ts, false, hl, ps, hi => by
  have e : (Tk.num i :: ts).flatMap (Tk.txt pre y) ++ y.E = Lib.itoa i ++ (ts.flatMap (Tk.txt pre y) ++ y.E) := by simp [Tk.txt]
  rw [e, if_neg (by simp), fin_itoa ps hi _ i hl.2.1 (rest_head pre h ts hl.2.2)]
  have := fin_toks hp h ts true hl.2.2 (ps ++ [pn i]) hi
  rw [if_pos rfl] at this
  refine this.trans ?_
  simp [Tk.pcs]
 | .q xs :: ts, false, hl, ps, hi => by
  have e : (Tk.q xs :: ts).flatMap (Tk.txt pre y) ++ y.E = u8 (quoteA xs) ++ (ts.flatMap (Tk.txt pre y) ++ y.E) := by simp [Tk.txt]
  obtain ⟨hi', e2⟩ := fin_str ps (ts.flatMap (Tk.txt pre y) ++ y.E) xs hl.2.1 hi
  rw [e, if_neg (by simp), e2]
  have := fin_toks hp h ts true hl.2.2 (ps ++ [pq xs]) hi'
  rw [if_pos rfl] at this
  refine this.trans ?_
  simp [Tk.pcs]
theorem cut_toks {pre : List UInt8} (hp : preOk pre) {y : Wy} (h : y.Ok) (ts : List Tk) (hl : lin false ts) : cutV (ts.flatMap (Tk.txt pre y) ++ y.E) = some (ts.flatMap (Tk.pcs pre)) := by
 rw [cutV_finL]
 have := fin_toks hp h ts false hl [] 0
 rw [if_neg (by simp)] at this
 refine Eq.trans ?_ this
 rfl
theorem word_ten {s : List UInt8} (h : WordL s) : ∀ b ∈ s, b ≠ 10 := fun b hb e => by
 have := h.all b hb
 subst e
 exact absurd this (by decide)
theorem itoa_ten (i : Int) : ∀ b ∈ Lib.itoa i, b ≠ 10 := by
 intro b hb e
 subst e
 unfold Lib.itoa at hb
 split at hb
 ·rcases List.mem_cons.1 hb with h | h
  ·exact absurd h (by decide)
  ·exact absurd (dec_go _ _ h) (by decide)
 ·exact absurd (dec_go _ _ hb) (by decide)
theorem qa_ten : ∀ n : Nat, n < 256 → ∀ b ∈ u8 (qa (n : Int)), b ≠ 10 := by decide +kernel
theorem quote_ten (xs : List Int) (h : ∀ x ∈ xs, 0 ≤ x ∧ x ≤ 255) : ∀ b ∈ u8 (quoteA xs), b ≠ 10 := by
 intro b hb
 have e : u8 (quoteA xs) = 34 :: (u8 (xs.flatMap qa) ++ [34]) := by simp [u8, quoteA]
 rw [e] at hb
 rcases List.mem_cons.1 hb with rfl | hb
 ·decide
 ·rcases List.mem_append.1 hb with hb | hb
  ·obtain ⟨y, hy, rfl⟩ := List.mem_map.1 hb
   obtain ⟨x, hx, hy⟩ := List.mem_flatMap.1 hy
   obtain ⟨h0, h1⟩ := h x hx
   obtain ⟨n, rfl⟩ := Int.eq_ofNat_of_zero_le h0
   exact qa_ten n (by omega) _ (List.mem_map.2 ⟨y, hy, rfl⟩)
  ·rcases List.mem_cons.1 hb with rfl | hb
   ·decide
   ·exact absurd hb List.not_mem_nil
theorem tk_ten {pre : List UInt8} (hp : preOk pre) {y : Wy} (h : y.Ok) (t : Tk) (ht : t.ok) : ∀ b ∈ t.txt pre y, b ≠ 10 := by
 intro b hb
 cases t with
 | tab => exact (blank_no (h.a b hb)).2
 | sp =>
  rcases List.mem_cons.1 hb with rfl | hb
  ·decide
  ·exact (blank_no (h.b b hb)).2
 | col =>
  rcases List.mem_append.1 hb with hb | hb
  ·exact (blank_no (h.b b hb)).2
  ·rcases List.mem_cons.1 hb with rfl | hb
   ·decide
   ·exact absurd hb List.not_mem_nil
 | w s => exact word_ten ht b hb
 | nm c k => exact word_ten (nm_word hp ht k) b hb
 | num i => exact itoa_ten i b hb
 | q xs => exact quote_ten xs ht b hb
theorem lin_ok : ∀ (ts : List Tk) (q : Bool), lin q ts → ∀ t ∈ ts, t.ok
 | [], _, _, t, ht => absurd ht List.not_mem_nil
 | x :: ts, q, h, t, ht => by
  have hx : x.ok ∧ ∃ q', lin q' ts := by
   cases q <;> cases x <;> first
    | exact ⟨trivial, _, h⟩
    | exact ⟨h.2.1, _, h.2.2⟩
    | exact h.elim
    | exact absurd h.1 (by decide)
  rcases List.mem_cons.1 ht with rfl | ht
  ·exact hx.1
  ·obtain ⟨q', hq⟩ := hx.2
   exact lin_ok ts q' hq t ht
theorem line_ten {pre : List UInt8} (hp : preOk pre) {y : Wy} (h : y.Ok) (ts : List Tk) (hl : lin false ts) : ∀ b ∈ ts.flatMap (Tk.txt pre y) ++ y.E, b ≠ 10 := by
 intro b hb
 rcases List.mem_append.1 hb with hb | hb
 ·obtain ⟨t, ht, hb⟩ := List.mem_flatMap.1 hb
  exact tk_ten hp h t (lin_ok ts false hl t ht) b hb
 ·obtain ⟨bl, c, e, hbl, _, hc⟩ := h.e
  rw [e] at hb
  rcases List.mem_append.1 hb with hb | hb
  ·exact (blank_no (hbl b hb)).2
  ·exact hc b hb
theorem lines_app : ∀ (l r : List UInt8), (∀ b ∈ l, b ≠ 10) → linesL (l ++ 10 :: r) = l :: linesL r
 | [], r, _ => by rw [List.nil_append, linesL, if_pos rfl]
 | b :: l, r, h => by
  rw [List.cons_append, linesL, if_neg (h b List.mem_cons_self), lines_app l r (fun c hc => h c (List.mem_cons_of_mem _ hc))]
end Go.Proofs.YtpfmhibdmehlcaaGreatDoor

import Derived.Test.YtpfmhibdmehlcaaGreatDoorTOx32
import Derived.Test.YtpfmhibdmehlcaaGreatDoorTOx20
namespace Go.Proofs.YtpfmhibdmehlcaaGreatDoor
open Go.RowKit
set_option linter.unusedVariables false
set_option linter.unusedSimpArgs false
set_option maxRecDepth 100000
def linesQ : Rdr → Int → List (List Pf) → (Int × Int) ⊕ Rdr
 | R, _, [] => .inr R
 | R, n, l :: ls => match lineP R n (some l) with | .bad e => .inl (n, e) | .good R' => linesQ R' (n + 1) ls
theorem linesP_Q : ∀ (L : List (List UInt8)) (pss : List (List Pf)) (R : Rdr) (n : Int), L.map cutV = pss.map some → linesP R n L = linesQ R n pss
 | [], [], R, n, _ => rfl
 | [], _ :: _, R, n, h => by simp at h
 | _ :: _, [], R, n, h => by simp at h
 | l :: L, ps :: pss, R, n, h => by
  simp only [List.map_cons, List.cons.injEq] at h
  rw [linesP, linesQ, h.1]
  cases lineP R n (some ps) with
  | bad e => rfl
  | good R' => exact linesP_Q L pss R' (n + 1) h.2
theorem linesQ_app : ∀ (a b : List (List Pf)) (R : Rdr) (n : Int), linesQ R n (a ++ b) = match linesQ R n a with | .inl e => .inl e | .inr R' => linesQ R' (n + (a.length : Int)) b
 | [], b, R, n => by simp [linesQ]
 | x :: a, b, R, n => by
  rw [List.cons_append, linesQ, linesQ]
  cases e : lineP R n (some x) with
  | bad e => rfl
  | good R' =>
   simp only
   rw [linesQ_app a b R' (n + 1)]
   have e9 : n + 1 + (a.length : Int) = n + ((x :: a).length : Int) := by
    simp only [List.length_cons]
    omega
   rw [e9]
theorem linesQ_one {R R' : Rdr} {n : Int} {l : List Pf} {ls : List (List Pf)} (h : lineP R n (some l) = .good R') : linesQ R n (l :: ls) = linesQ R' (n + 1) ls := by rw [linesQ, h]
def lsQ (pre : List UInt8) (q : List Bool) (k : Nat) : List (ByteArray × Int) := (List.range k).flatMap (fun j => if q.getD j false then [(lbN pre j, (j : Int))] else [])
theorem lsQ_succ (pre : List UInt8) (q : List Bool) (k : Nat) : lsQ pre q (k + 1) = lsQ pre q k ++ (if q.getD k false then [(lbN pre k, (k : Int))] else []) := by simp [lsQ, List.range_succ, List.flatMap_append]
theorem lk_no (pre : List UInt8) (q : List Bool) : ∀ (k j : Nat), k ≤ j → j ≤ 1000000 → lkA (lsQ pre q k) (lbN pre j) = none
 | 0, j, _, _ => rfl
 | k + 1, j, h, hj => by
  rw [lsQ_succ]
  split
  ·rw [lkA_snoc, lk_no pre q k j (by omega) hj]
   simp only
   rw [if_neg (fun e => by have := lbN_inj (by omega) (by omega) e; omega)]
  ·rw [List.append_nil]
   exact lk_no pre q k j (by omega) hj
theorem lk_yes (pre : List UInt8) (q : List Bool) : ∀ (k j : Nat), j < k → k ≤ 1000000 → q.getD j false = true → lkA (lsQ pre q k) (lbN pre j) = some (j : Int)
 | 0, j, h, _, _ => by omega
 | k + 1, j, h, hk, hq => by
  rw [lsQ_succ]
  by_cases hjk : j = k
  ·subst hjk
   rw [if_pos hq, lkA_snoc, lk_no pre q j j (Nat.le_refl _) (by omega)]
   simp
  ·have ih := lk_yes pre q k j (by omega) (by omega) hq
   split
   ·rw [lkA_snoc, ih]
   ·rw [List.append_nil]
    exact ih
theorem nm_no (pre : List UInt8) : ∀ (fs : List Fnc) (k j : Nat), (∀ i f, fs[i]? = some f → f.nm = fnN pre (k + i)) → k + fs.length ≤ j → j ≤ 1000000 → lkA (nmL k fs) (fnN pre j) = none
 | [], k, j, _, _, _ => rfl
 | f :: fs, k, j, h, hl, hj => by
  simp only [List.length_cons] at hl
  have h0 := h 0 f rfl
  rw [nmL, lkA, h0, if_neg (fun e => by have := fnN_inj (by omega) (by omega) e; omega)]
  exact nm_no pre fs (k + 1) j (fun i g hg => by
   have := h (i + 1) g (by simpa using hg)
   rw [this]
   congr 1
   omega) (by omega) hj
theorem nm_yes (pre : List UInt8) : ∀ (fs : List Fnc) (k j : Nat), (∀ i f, fs[i]? = some f → f.nm = fnN pre (k + i)) → j < fs.length → k + fs.length ≤ 1000000 → lkA (nmL k fs) (fnN pre (k + j)) = some ((k + j : Nat) : Int)
 | [], k, j, _, h, _ => by simp at h
 | f :: fs, k, j, h, hl, hk => by
  simp only [List.length_cons] at hl hk
  have h0 := h 0 f rfl
  rw [nmL, lkA, h0]
  cases j with
  | zero => simp
  | succ j =>
   rw [if_neg (fun e => by have := fnN_inj (by omega) (by omega) e; omega)]
   have := nm_yes pre fs (k + 1) j (fun i g hg => by
    have := h (i + 1) g (by simpa using hg)
    rw [this]
    congr 1
    omega) (by omega) (by omega)
   rw [show k + 1 + j = k + (j + 1) by omega] at this
   exact this
def lbAt (pre : List UInt8) (q : List Bool) (k : Nat) : List (List Pf) := if q.getD k false then [[pw (lbN pre k), pc]] else []
def inAt (pre : List UInt8) (pl fs : Int) (ys : List IN) (k : Nat) : List (List Pf) := match ys[k]? with | some x => [insP pre x pl fs] | none => []
def bodP (pre : List UInt8) (q : List Bool) (pl fs : Int) (ys : List IN) (n : Nat) : List (List Pf) := (List.range n).flatMap (fun k => lbAt pre q k ++ inAt pre pl fs ys k)
theorem bodP_succ (pre : List UInt8) (q : List Bool) (pl fs : Int) (ys : List IN) (n : Nat) : bodP pre q pl fs ys (n + 1) = bodP pre q pl fs ys n ++ (lbAt pre q n ++ inAt pre pl fs ys n) := by simp [bodP, List.range_succ, List.flatMap_append]
def fnP (pre : List UInt8) (k : Nat) (f : FN) (fs : Int) : List (List Pf) := [pw funB, pw (fnN pre k), pn f.a, pn f.l, pn f.r] :: bodP pre (aimsD f.code) (f.code.length : Int) fs f.code (f.code.length + 1)
def fnAtP (pre : List UInt8) (fs : Int) (fns : List FN) (k : Nat) : List (List Pf) := match fns[k]? with | some f => fnP pre k f fs | none => []
def fnsP (pre : List UInt8) (fs : Int) (fns : List FN) (n : Nat) : List (List Pf) := (List.range n).flatMap (fnAtP pre fs fns)
theorem fnsP_succ (pre : List UInt8) (fs : Int) (fns : List FN) (n : Nat) : fnsP pre fs fns (n + 1) = fnsP pre fs fns n ++ fnAtP pre fs fns n := by simp [fnsP, List.range_succ, List.flatMap_append]
def datQ (xs : List Int) : List (List Pf) := if xs.length = 0 then [] else [[pw datB, pq xs]]
def progP (pre : List UInt8) (p : PG) : List (List Pf) := [pw memB, pn p.mem] :: (datQ p.data ++ (fnsP pre (p.fns.length : Int) p.fns p.fns.length ++ [[]]))
def WQ (pre : List UInt8) (fns : List FN) (w : Wt) : Prop := ∃ f x, fns[w.fn]? = some f ∧ f.code[w.pl]? = some x ∧
 ((w.jump = true ∧ (rowS insL x.op).o = 3 ∧ 0 ≤ x.a ∧ x.a ≤ (f.code.length : Int) ∧ w.nm = lbN pre x.a.toNat) ∨ (w.jump = false ∧ (rowS insL x.op).o = 4 ∧ 0 ≤ x.a ∧ x.a < (fns.length : Int) ∧ w.nm = fnN pre x.a.toNat))
def stQ (pre : List UInt8) (fs : Int) (nm : ByteArray) (f : FN) (a b : Nat) : Fnc := ⟨nm, f.a, f.l, f.r, lsQ pre (aimsD f.code) a, (f.code.take b).map (codQ (f.code.length : Int) fs)⟩
theorem lab_line (R : Rdr) (n : Int) (gs : List Fnc) (f : Fnc) (s : ByteArray) (h : R.fs = gs ++ [f]) (hs : lkA f.ls s = none) :
  lineP R n (some [pw s, pc]) = .good ⟨R.mem, R.sized, R.data, gs ++ [⟨f.nm, f.a, f.l, f.r, f.ls ++ [(s, (f.code.length : Int))], f.code⟩], R.ws⟩ := by
 have e : labP [pw s, pc] = ([s], []) := by rw [labP_cons _ _ _ ⟨rfl, rfl⟩]; rfl
 unfold lineP
 simp only
 rw [e, if_neg (by simp)]
 rw [codeP_snoc R n [s] [] gs f h]
 unfold codeF
 rw [if_neg (by simp), if_neg (by simp)]
 simp [labF, hs]
theorem opP_k (pre : List UInt8) (s : Sh) (a pl fs : Int) : opP pre s a pl fs = [] ∨ ∃ q, opP pre s a pl fs = [q] ∧ q.k ≠ 3 := by
 unfold opP
 repeat' split
 all_goals first
  | exact .inl rfl
  | exact .inr ⟨_, rfl, by simp [pw, pn]⟩
theorem ins_line (pre : List UInt8) (pl fs : Int) {x : IN} (hx : errI x = 0) (R : Rdr) (n : Int) (gs : List Fnc) (f : Fnc) (h : R.fs = gs ++ [f]) :
  lineP R n (some (insP pre x pl fs)) = .good ⟨R.mem, R.sized, R.data, gs ++ [addC f x.op (codQ pl fs x).a], R.ws ++ addW gs.length f n x.op (wdQ pre x pl fs)⟩ := by
 obtain ⟨i1, i2⟩ := instr_ins pre pl fs hx
 obtain ⟨m, hm, hop, hro, ho, hmay⟩ := ins_right hx
 obtain ⟨x1, x2, x3, x4⟩ := ins_ixN m hm
 have e : labP (insP pre x pl fs) = ([], insP pre x pl fs) := by
  unfold insP
  rcases opP_k pre (rowS insL x.op) x.a pl fs with h | ⟨q, h, hq⟩
  ·rw [h]; rfl
  ·rw [h, labP_stop _ _ _ (fun e => hq e.2)]
 unfold lineP
 simp only
 rw [e, if_pos rfl]
 have hd : headP R n (insP pre x pl fs) = codeP R n [] (insP pre x pl fs) := by
  unfold insP headP
  have e1 : (pw (rowS insL x.op).nm).s = (insL.getD m Sh.none).nm := by rw [hro]; rfl
  simp only
  rw [e1, if_neg (by simp [pw]), if_neg x2, if_neg x3, if_neg x4]
 rw [hd, codeP_snoc R n [] _ gs f h]
 unfold codeF
 rw [if_neg (by rw [i1]; simp), if_neg (by rw [i2]; simp)]
 simp only [labF]
 rw [if_neg (by unfold insP; simp), i1]
theorem aims_fold (n : Nat) : ∀ (ys : List IN) (l : List Bool) (k : Nat), l.getD k false = true → (ys.foldl (aimS n) l).getD k false = true
 | [], l, k, h => h
 | x :: ys, l, k, h => by
  rw [List.foldl_cons]
  refine aims_fold n ys _ k ?_
  unfold aimS
  split
  ·by_cases e : x.a.toNat = k
   ·rw [e, List.getD, List.getElem?_set_self (by
     have : (l.getD k false) = true := h
     unfold List.getD at this
     cases hk : l[k]? with
     | none => rw [hk] at this; simp at this
     | some v => exact (List.getElem?_eq_some_iff.1 hk).1)]
    rfl
   ·rw [List.getD, List.getElem?_set_ne e]
    exact h
  ·exact h
theorem aims_mem (n : Nat) : ∀ (ys : List IN) (l : List Bool) (x : IN), x ∈ ys → (rowS insL x.op).o = 3 → 0 ≤ x.a → x.a ≤ (n : Int) → l.length = n + 1 → (ys.foldl (aimS n) l).getD x.a.toNat false = true
 | [], l, x, h, _, _, _, _ => absurd h List.not_mem_nil
 | y :: ys, l, x, h, ho, h0, h1, hl => by
  rw [List.foldl_cons]
  rcases List.mem_cons.1 h with rfl | h
  ·refine aims_fold n ys _ _ ?_
   unfold aimS
   rw [if_pos ⟨ho, by omega⟩, List.getD, List.getElem?_set_self (by omega)]
   rfl
  ·exact aims_mem n ys _ x h ho h0 h1 (by rw [aim_len]; exact hl)
theorem aims_true {ys : List IN} {x : IN} (h : x ∈ ys) (ho : (rowS insL x.op).o = 3) (h0 : 0 ≤ x.a) (h1 : x.a ≤ (ys.length : Int)) : (aimsD ys).getD x.a.toNat false = true := aims_mem ys.length ys _ x h ho h0 h1 (by simp)
theorem take_at {f : FN} {m : Nat} {x : IN} (hx : f.code[m]? = some x) : f.code.take (m + 1) = f.code.take m ++ [x] := by
 obtain ⟨hi, rfl⟩ := List.getElem?_eq_some_iff.1 hx
 exact List.take_succ_eq_append_getElem hi
structure WSq (pre : List UInt8) (fns : List FN) (ws : List Wt) (k m : Nat) : Prop where
 ok : ∀ w ∈ ws, WQ pre fns w
 all : ∀ t f j x, fns[t]? = some f → f.code[j]? = some x → (t < k ∨ (t = k ∧ j < m)) → waitB x (f.code.length : Int) (fns.length : Int) = true → ∃ w ∈ ws, w.fn = t ∧ w.pl = j
theorem body_run (pre : List UInt8) (fns : List FN) (k : Nat) (f : FN) (hf : fns[k]? = some f) (hg : ∀ y ∈ f.code, errI y = 0) (hl : f.code.length ≤ 4096) (gs : List Fnc) (hgs : gs.length = k) (mem : Int) (sized : Bool) (data : List Int) (nm : ByteArray) (n0 : Int) (ws0 : List Wt) (h0 : WSq pre fns ws0 k 0) :
  ∀ m, m ≤ f.code.length + 1 → ∃ ws1, linesQ ⟨mem, sized, data, gs ++ [stQ pre (fns.length : Int) nm f 0 0], ws0⟩ n0 (bodP pre (aimsD f.code) (f.code.length : Int) (fns.length : Int) f.code m) = .inr ⟨mem, sized, data, gs ++ [stQ pre (fns.length : Int) nm f m m], ws1⟩ ∧ WSq pre fns ws1 k m
 | 0, _ => ⟨ws0, rfl, h0⟩
 | m + 1, hm => by
  obtain ⟨ws1, h1, h2⟩ := body_run pre fns k f hf hg hl gs hgs mem sized data nm n0 ws0 h0 m (by omega)
  rw [bodP_succ, linesQ_app, h1]
  simp only
  generalize n0 + ((bodP pre (aimsD f.code) (f.code.length : Int) (fns.length : Int) f.code m).length : Int) = n1
  rw [linesQ_app]
  have hlab : ∃ n2, linesQ ⟨mem, sized, data, gs ++ [stQ pre (fns.length : Int) nm f m m], ws1⟩ n1 (lbAt pre (aimsD f.code) m) = .inr ⟨mem, sized, data, gs ++ [stQ pre (fns.length : Int) nm f (m + 1) m], ws1⟩ ∧ n2 = n1 + ((lbAt pre (aimsD f.code) m).length : Int) := by
   refine ⟨_, ?_, rfl⟩
   unfold lbAt
   by_cases hq : (aimsD f.code).getD m false = true
   ·rw [if_pos hq, linesQ_one (lab_line _ n1 gs (stQ pre (fns.length : Int) nm f m m) (lbN pre m) rfl (lk_no pre _ m m (Nat.le_refl _) (by omega)))]
    have e : (stQ pre (fns.length : Int) nm f m m).ls ++ [(lbN pre m, (((stQ pre (fns.length : Int) nm f m m).code.length : Nat) : Int))] = lsQ pre (aimsD f.code) (m + 1) := by
     rw [lsQ_succ, if_pos hq]
     unfold stQ
     simp only [List.length_map, List.length_take]
     congr 3
     omega
    rw [e]
    rfl
   ·rw [if_neg hq]
    have e : lsQ pre (aimsD f.code) (m + 1) = lsQ pre (aimsD f.code) m := by rw [lsQ_succ, if_neg hq, List.append_nil]
    unfold stQ
    rw [e]
    rfl
  obtain ⟨n2, hlab, hn2⟩ := hlab
  rw [hlab]
  simp only
  rw [← hn2]
  clear hlab hn2 h1
  unfold inAt
  cases hx : f.code[m]? with
  | none =>
   have hml : f.code.length ≤ m := List.getElem?_eq_none_iff.1 hx
   refine ⟨ws1, ?_, h2.ok, fun t g j x ht hj hor hw => ?_⟩
   ·have e : f.code.take (m + 1) = f.code.take m := by rw [List.take_of_length_le (by omega), List.take_of_length_le hml]
    simp only [linesQ]
    unfold stQ
    rw [e]
   ·refine h2.all t g j x ht hj ?_ hw
    rcases hor with h | ⟨rfl, h⟩
    ·exact .inl h
    ·rw [hf] at ht
     cases ht
     have := (List.getElem?_eq_some_iff.1 hj).1
     exact .inr ⟨rfl, by omega⟩
  | some x =>
   have hxm := List.mem_of_getElem? hx
   have hml := (List.getElem?_eq_some_iff.1 hx).1
   have hex := hg x hxm
   simp only
   rw [linesQ_one (ins_line pre (f.code.length : Int) (fns.length : Int) hex _ n2 gs (stQ pre (fns.length : Int) nm f (m + 1) m) rfl)]
   have hcl : (stQ pre (fns.length : Int) nm f (m + 1) m).code.length = m := by
    unfold stQ
    simp only [List.length_map, List.length_take]
    omega
   refine ⟨ws1 ++ addW gs.length (stQ pre (fns.length : Int) nm f (m + 1) m) n2 x.op (wdQ pre x (f.code.length : Int) (fns.length : Int)), ?_, fun w hw => ?_, fun t g j y ht hj hor hwt => ?_⟩
   ·simp only [linesQ]
    congr 1
    unfold addC stQ
    simp only
    rw [take_at hx, List.map_append]
    rfl
   ·rcases List.mem_append.1 hw with hw | hw
    ·exact h2.ok w hw
    ·unfold addW at hw
     split at hw
     ·cases hw
     ·rename_i hne
      rw [List.mem_singleton.1 hw]
      have hwb : waitB x (f.code.length : Int) (fns.length : Int) = true := by
       cases hv : waitB x (f.code.length : Int) (fns.length : Int) with
       | true => rfl
       | false => exact absurd ((wdQ_wait pre x _ _).2 hv) hne
      obtain ⟨i, hi, hop, hro, ho, hmay⟩ := ins_right hex
      obtain ⟨-, -, k4, k17⟩ := kix_o i hi
      unfold waitB at hwb
      have hwb := of_decide_eq_true hwb
      refine ⟨f, x, by show fns[gs.length]? = _; rw [hgs]; exact hf, by show f.code[_]? = _; rw [hcl]; exact hx, ?_⟩
      by_cases h3 : (rowS insL x.op).o = 3 ∧ x.a ≤ (f.code.length : Int)
      ·left
       rw [ho] at h3
       have e3 : kix i = 3 := by omega
       rw [e3] at hmay
       have hm2 : 0 ≤ x.a ∧ x.a < endOf 3 := by simpa [mayP] using hmay
       refine ⟨?_, by rw [ho, e3]; rfl, hm2.1, h3.2, ?_⟩
       ·show (!decide (x.op = 17)) = true
        have : x.op ≠ 17 := fun e => by
         have : i = 17 := by omega
         have := k17 this
         omega
        simp [this]
       ·show wdQ _ _ _ _ = _
        unfold wdQ
        rw [if_pos ⟨by rw [ho, e3]; rfl, h3.2⟩]
      ·right
       have h4 : (rowS insL x.op).o = 4 ∧ x.a < (fns.length : Int) := by
        rcases hwb with h | h
        ·exact absurd h h3
        ·exact h
       have e4 : kix i = 4 := by rw [ho] at h4; omega
       rw [e4] at hmay
       have hm2 : 0 ≤ x.a ∧ x.a < endOf 4 := by simpa [mayP] using hmay
       refine ⟨?_, h4.1, hm2.1, h4.2, ?_⟩
       ·show (!decide (x.op = 17)) = false
        have : x.op = 17 := by
         have := k4 e4
         omega
        simp [this]
       ·show wdQ _ _ _ _ = _
        unfold wdQ
        rw [if_neg h3, if_pos h4]
   ·rcases hor with h | ⟨rfl, h⟩
    ·obtain ⟨w, hw, e⟩ := h2.all t g j y ht hj (.inl h) hwt
     exact ⟨w, List.mem_append_left _ hw, e⟩
    ·by_cases hjm : j < m
     ·obtain ⟨w, hw, e⟩ := h2.all t g j y ht hj (.inr ⟨rfl, hjm⟩) hwt
      exact ⟨w, List.mem_append_left _ hw, e⟩
     ·obtain rfl : j = m := by omega
      rw [hf] at ht
      cases ht
      rw [hx] at hj
      cases hj
      have hne : wdQ pre x (f.code.length : Int) (fns.length : Int) ≠ ⟨#[]⟩ := fun e => by
       rw [(wdQ_wait pre x _ _).1 e] at hwt
       cases hwt
      refine ⟨⟨n2, gs.length, (stQ pre (fns.length : Int) nm f (j + 1) j).code.length, wdQ pre x (f.code.length : Int) (fns.length : Int), !decide (x.op = 17)⟩, List.mem_append_right _ ?_, hgs, hcl⟩
      ·unfold addW
       rw [if_neg hne]
       exact List.mem_singleton.2 rfl
end Go.Proofs.YtpfmhibdmehlcaaGreatDoor

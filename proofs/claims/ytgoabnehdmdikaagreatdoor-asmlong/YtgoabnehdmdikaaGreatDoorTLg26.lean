import Derived.Test.YtgoabnehdmdikaaGreatDoorTLg20
import Derived.Test.YtgoabnehdmdikaaGreatDoorTLg25
set_option linter.unusedVariables false
set_option linter.unusedSimpArgs false
set_option maxRecDepth 100000
set_option maxHeartbeats 64000000
namespace Go.Proofs.YtgoabnehdmdikaaGreatDoor
open Go.RowKit
abbrev FlP (p : Pf) : Prop := p.f = true → p.k = 1
theorem Zou {x y : CS} {r : Int} (h : Ye x r = some y) : ∀ p ∈ y.ps, p ∈ x.ps ∨ FlP p := by
 unfold Ye at h
 repeat' split at h
 all_goals first | (cases h; done) | skip
 all_goals
  injection h with h
  subst h
  intro p hp
  simp only [List.mem_append, List.mem_singleton] at hp
  first
   | exact .inl hp
   | (
     rcases hp with hp | rfl
     ·exact .inl hp
     ·exact .inr (fun e => by first | rfl | cases e))
theorem Zov (x : CS) : ∀ p ∈ (Xf x).ps, p ∈ x.ps ∨ FlP p := by
 intro p hp
 unfold Xf at hp
 split at hp
 ·simp only [List.mem_append, List.mem_singleton] at hp
  rcases hp with hp | rfl
  ·exact .inl hp
  ·exact .inr (fun e => by first | rfl | cases e)
 ·split at hp
  ·simp only [List.mem_append, List.mem_singleton] at hp
   rcases hp with hp | rfl
   ·exact .inl hp
   ·exact .inr (fun e => rfl)
  ·exact .inl hp
theorem Zue {x y : CS} {r : Int} (h : Yb x r = some y) : ∀ p ∈ y.ps, p ∈ x.ps ∨ FlP p := by
 unfold Yb at h
 split at h
 ·split at h
  ·injection h with h
   subst h
   exact fun p hp => .inl hp
  ·split at h
   ·intro p hp
    rcases Zou h p hp with h1 | h1
    ·exact Zov x p h1
    ·exact .inr h1
   ·cases h
 ·split at h
  ·unfold Xd at h
   repeat' split at h
   all_goals first | (cases h; done) | skip
   all_goals
    injection h with h
    subst h
    intro p hp
    first
     | exact .inl hp
     | (
       simp only [List.mem_append, List.mem_singleton] at hp
       rcases hp with hp | rfl
       ·exact .inl hp
       ·exact .inr (fun e => by first | rfl | cases e))
  ·split at h
   ·unfold Wj at h
    repeat' split at h
    all_goals first | (cases h; done) | skip
    all_goals
     injection h with h
     subst h
     exact fun p hp => .inl hp
   ·split at h
    ·unfold Wd at h
     repeat' split at h
     all_goals first | (cases h; done) | skip
     all_goals
      injection h with h
      subst h
      exact fun p hp => .inl hp
    ·exact fun p hp => Zou h p hp
theorem Zow : ∀ (l : List UInt8) (x y : CS), Zy l x = some y → (∀ p ∈ x.ps, FlP p) → ∀ p ∈ y.ps, FlP p
 | [], x, y, h, hp => by
  rw [Zy] at h
  cases h
  exact hp
 | b :: l, x, y, h, hp => by
  rw [Zy] at h
  split at h
  ·cases h
   exact hp
  ·cases ht : Yb x (b.toNat : Int) with
   | none => rw [ht] at h; cases h
   | some z =>
    rw [ht] at h
    exact Zow l z y h (fun p hpz => by
     rcases Zue ht p hpz with h | h
     ·exact hp p h
     ·exact h)
theorem Zuf {l : List UInt8} {ps : List Pf} (h : Yc l = some ps) : ∀ p ∈ ps, FlP p := by
 unfold Yc at h
 cases hc : Zy l ⟨[], 0, [], 0⟩ with
 | none => rw [hc] at h; cases h
 | some x =>
  rw [hc] at h
  simp only at h
  split at h
  ·cases h
   intro p hp
   rcases Zov x p hp with h | h
   ·exact Zow l _ x hc (fun q hq => absurd hq List.not_mem_nil) p h
   ·exact h
  ·cases h
theorem Zmb : ∀ {ps ds : List Pf}, Sim ps ds → (∀ p ∈ ps, FlP p) → (Yl ps).1 = (Yy ds).1 ∧ Sim (Yl ps).2 (Yy ds).2 ∧ ds.any Pf.f = (Yy ds).2.any Pf.f
 | _, _, .nil, _ => ⟨rfl, .nil, rfl⟩
 | _, _, .cons h .nil, _ => ⟨rfl, .cons h .nil, rfl⟩
 | _, _, .cons (p := p) (d := d) h1 (.cons (p := q) (d := e) (ps := ps) (ds := ds) h2 h3), hf => by
  obtain ⟨a1, a2, a3, a4⟩ := h1
  obtain ⟨b1, b2, b3, b4⟩ := h2
  by_cases hc : p.k = 0 ∧ q.k = 3
  ·have hd : d.k = 1 ∧ e.k = 4 := by omega
   obtain ⟨i1, i2, i3⟩ := Zmb h3 (fun r hr => hf r (List.mem_cons_of_mem _ (List.mem_cons_of_mem _ hr)))
   rw [Zfx p q ps hc, Zdy d e ds hd, i1, a2 (by omega)]
   refine ⟨rfl, i2, ?_⟩
   have f1 : p.f = false := by
    cases hv : p.f with
    | false => rfl
    | true => have := hf p List.mem_cons_self hv; omega
   have f2 : q.f = false := by
    cases hv : q.f with
    | false => rfl
    | true => have := hf q (List.mem_cons_of_mem _ List.mem_cons_self) hv; omega
   rw [List.any_cons, List.any_cons, a3, b3, f1, f2, i3]
   rfl
  ·have hd : ¬ (d.k = 1 ∧ e.k = 4) := by omega
   rw [Zfy p q ps hc, Zc9 d e ds hd]
   exact ⟨rfl, .cons ⟨a1, a2, a3, a4⟩ (.cons ⟨b1, b2, b3, b4⟩ h3), rfl⟩
theorem Zel : ∀ {ps ds : List Pf}, Sim ps ds → ds.any Pf.f = ps.any Pf.f
 | _, _, .nil => rfl
 | _, _, .cons h1 h2 => by rw [List.any_cons, List.any_cons, Zel h2, h1.2.2.1]
theorem Zdl {ps ds : List Pf} (h : Sim ps ds) : ds = [] ↔ ps = [] := by
 cases h <;> simp
theorem Zkf (n kd : Nat) {ps ds : List Pf} (h : Sim ps ds) : (Zb5 n kd ds = none ↔ Zbh n (kd : Int) ps = none) ∧ (ps.any Pf.f = false → Zb5 n kd ds = Zbh n (kd : Int) ps) := by
 have e0 : ((kd : Int) = 0) = (kd = 0) := by simp
 have e3 : ((kd : Int) = 3 ∨ (kd : Int) = 4) = (kd = 3 ∨ kd = 4) := by
  apply propext; omega
 have e5 : ((kd : Int) = 5) = (kd = 5) := by apply propext; omega
 cases h with
 | nil =>
  simp only [Zb5, Zbh, e0]
  exact ⟨trivial, fun _ => trivial⟩
 | cons h1 h2 =>
  obtain ⟨a1, a2, a3, a4⟩ := h1
  rename_i p d ps ds
  simp only [Zb5, Zbh, e0, e3, e5]
  by_cases k0 : kd = 0
  ·rw [if_pos k0, if_pos k0]; exact ⟨Iff.rfl, fun _ => rfl⟩
  rw [if_neg k0, if_neg k0]
  by_cases hr : ps = []
  ·rw [if_pos hr, if_pos ((Zdl h2).2 hr)]
   by_cases h1 : p.k = 1
   ·rw [if_pos h1, if_pos (by omega)]
    refine ⟨by simp, fun hf => ?_⟩
    have hpf : p.f = false := by
     rw [List.any_cons] at hf
     simp at hf
     exact hf.1
    rw [a4 hpf]
   ·rw [if_neg h1, if_neg (by omega)]
    by_cases h0 : p.k = 0
    ·rw [if_pos h0, if_pos (by omega), a2 h1]
     by_cases k5 : kd = 5
     ·have k34 : ¬ (kd = 3 ∨ kd = 4) := by omega
      rw [if_pos k5, if_neg k34, if_pos k5]
      exact ⟨Iff.rfl, fun _ => rfl⟩
     ·rw [if_neg k5, if_neg k5]
      exact ⟨Iff.rfl, fun _ => rfl⟩
    ·rw [if_neg h0, if_neg (by omega)]
     exact ⟨Iff.rfl, fun _ => rfl⟩
  ·rw [if_neg hr, if_neg (fun e => hr ((Zdl h2).1 e))]
   exact ⟨Iff.rfl, fun _ => rfl⟩
theorem Zrk (n : Nat) (h : n < Zj.length) : (Yd Zj (n : Int)).o = (kix n : Int) := by
 have h46 : n < 46 := h
 unfold Yd
 rw [if_pos ⟨by omega, by omega⟩]
 exact (Zen n h46).2
theorem Zox {ps ds : List Pf} (h : Sim ps ds) (hne : ps ≠ []) : (Zas ds = none ↔ Zar ps = none) ∧ (ps.any Pf.f = false → Zas ds = Zar ps) := by
 cases h with
 | nil => exact absurd rfl hne
 | cons h1 h2 =>
  obtain ⟨a1, a2, a3, a4⟩ := h1
  rename_i p d ps ds
  simp only [Zas, Zar]
  by_cases h0 : p.k = 0
  ·rw [if_pos h0, if_pos (by omega), a2 (by omega)]
   cases hx : ixN Zj p.s with
   | none => exact ⟨Iff.rfl, fun _ => rfl⟩
   | some n =>
    simp only
    rw [Zrk n (Zeh hx)]
    refine ⟨(Zkf n (kix n) h2).1, fun hf => (Zkf n (kix n) h2).2 ?_⟩
    rw [List.any_cons, Bool.or_eq_false_iff] at hf
    exact hf.2
  ·rw [if_neg h0, if_neg (by omega)]
   exact ⟨Iff.rfl, fun _ => rfl⟩
theorem Zoy {n kd : Nat} {l : List Pf} {op a : Int} {w : ByteArray} (h : Zb5 n kd l = some (op, a, w)) : op = (n : Int) ∧ (w ≠ ⟨#[]⟩ → kd = 3 ∨ kd = 4) := by
 unfold Zb5 at h
 repeat' split at h
 all_goals first | (cases h; done) | skip
 all_goals
  cases h
  refine ⟨rfl, fun e => ?_⟩
  first
   | assumption
   | exact absurd rfl e
theorem Ze4 {l : List Pf} {op a : Int} {w : ByteArray} (h : Zas l = some (op, a, w)) (hl : l ≠ []) : 0 ≤ op ∧ op < 46 ∧ (w ≠ ⟨#[]⟩ → kix op.toNat = 3 ∨ kix op.toNat = 4) := by
 unfold Zas at h
 cases l with
 | nil => exact absurd rfl hl
 | cons p r =>
  simp only at h
  split at h
  ·cases hx : ixN Zj p.s with
   | none => rw [hx] at h; cases h
   | some n =>
    rw [hx] at h
    obtain ⟨h1, h2⟩ := Zoy h
    have h46 : n < 46 := Zeh hx
    subst h1
    exact ⟨by omega, by omega, by simpa using h2⟩
  ·cases h
theorem Zrl : ∀ n, n < 46 → (kix n = 3 ∨ kix n = 4) → (kix n = 3 ↔ n ≠ 17) := by decide
def Zf7 (k : Nat) (f : Fnc) (n op : Int) (w : ByteArray) : List Wt := if w = ⟨#[]⟩ then [] else [⟨n, k, f.code.length, w, decide (kix op.toNat = 3)⟩]
def Zbl (R : Rdr) (n : Int) (y : SD) (gs : List Fnc) (f : Fnc) : RR :=
 if y.big = true then .bad 143 else match Xu f y.ls with
  | none => .bad 142
  | some g => if y.op < 0 then .good ⟨R.mem, R.sized, R.data, gs ++ [g], R.ws⟩ else .good ⟨R.mem, R.sized, R.data, gs ++ [Xh g y.op y.a], R.ws ++ Zf7 gs.length g n y.op y.wd⟩
def Yn (R : Rdr) (n : Int) (y : SD) : RR :=
 if y.k = 1 then (if R.sized = true ∨ R.fs ≠ [] then .bad 141 else if y.big = true then .bad 143 else .good ⟨y.n0, true, R.data, R.fs, R.ws⟩)
 else if y.k = 2 then (if R.fs ≠ [] then .bad 141 else if y.big = true then .bad 143 else .good ⟨R.mem, R.sized, R.data ++ Xy y.dt, R.fs, R.ws⟩)
 else if y.k = 3 then (if y.big = true then .bad 143 else if (lkA (nmL 0 R.fs) y.nm).isSome = true then .bad 142 else .good ⟨R.mem, R.sized, R.data, R.fs ++ [⟨y.nm, y.n0, y.n1, y.n2, [], []⟩], R.ws⟩)
 else if y.k = 4 then (match R.fs.getLast? with | none => .bad 141 | some f => Zbl R n y R.fs.dropLast f)
 else if y.big = true then .bad 143 else .good R
def Zna (R : Rdr) (n : Int) (ds : List Pf) : RR := match Yt ds with | none => .bad 141 | some y => Yn R n y
theorem Zug (k : Nat) (f : Fnc) (n : Int) {l : List Pf} {op a : Int} {w : ByteArray} (h : Zas l = some (op, a, w)) (hl : l ≠ []) : Zf7 k f n op w = Zbt k f n op w := by
 unfold Zf7 Zbt
 by_cases hw : w = ⟨#[]⟩
 ·rw [if_pos hw, if_pos hw]
 ·rw [if_neg hw, if_neg hw]
  obtain ⟨h0, h46, h3⟩ := Ze4 h hl
  have h5 := Zrl op.toNat (by omega) (h3 hw)
  have h6 : decide (kix op.toNat = 3) = !decide (op = 17) := by
   rw [Bool.eq_iff_iff]
   simp only [decide_eq_true_eq, Bool.not_eq_true', decide_eq_false_iff_not, h5]
   omega
  rw [h6]
theorem Zij (R : Rdr) (n : Int) (ls : List ByteArray) {ps ds : List Pf} (h : Sim ps ds) (hne : ls ≠ [] ∨ ps ≠ []) : Za1 R n ls ps = match Wh ls ds (ds.any Pf.f) with | none => .bad 141 | some y => Yn R n y := by
 have ha := Zel h
 unfold Za1
 cases hg : R.fs.getLast? with
 | none =>
  simp only
  unfold Wh
  cases hi : Zas ds with
  | none => rfl
  | some z => obtain ⟨op, a, w⟩ := z; simp [Yn, hg]
 | some f =>
  simp only
  unfold Zc3 Wh
  by_cases hp : ps = []
  ·have hd := (Zdl h).2 hp
   subst hp
   subst hd
   simp [Zas, Yn, hg, Zbl]
   cases Xu f ls <;> rfl
  ·have hd : ds ≠ [] := fun e => hp ((Zdl h).1 e)
   obtain ⟨s1, s2⟩ := Zox h hp
   cases hi : Zas ds with
   | none => rw [if_pos ⟨hp, s1.1 hi⟩]
   | some z =>
    obtain ⟨op, a, w⟩ := z
    have hi' : ¬ (ps ≠ [] ∧ Zar ps = none) := fun e => by
     have := s1.2 e.2
     rw [this] at hi
     cases hi
    rw [if_neg hi', ha]
    simp only [Yn, hg, Zbl]
    rw [if_neg (show ¬ (4 : Int) = 1 by decide), if_neg (show ¬ (4 : Int) = 2 by decide), if_neg (show ¬ (4 : Int) = 3 by decide), if_pos trivial]
    by_cases hf : ps.any Pf.f = true
    ·rw [if_pos hf, if_pos hf]
    ·rw [if_neg hf, if_neg hf]
     cases hl : Xu f ls with
     | none => rfl
     | some g =>
      simp only
      rw [if_neg hp]
      have h9 := s2 (by simpa using hf)
      rw [← h9, hi]
      simp only
      obtain ⟨i0, -, -⟩ := Ze4 hi hd
      rw [if_neg (by omega), Zug _ g n hi hd]
theorem Zik : ∀ {ps ds : List Pf}, Sim ps ds → ds.map Pf.k = (ps.map Pf.k).map (· + 1)
 | _, _, .nil => rfl
 | _, _, .cons h1 h2 => by rw [List.map_cons, List.map_cons, List.map_cons, Zik h2, h1.1]
theorem Zkg {l : List Pf} {a : Int} (h : l.map Pf.k = [a]) : ∃ p, l = [p] ∧ p.k = a := by
 cases l with
 | nil => cases h
 | cons p r =>
  cases r with
  | nil => exact ⟨p, rfl, by injection h⟩
  | cons q r => simp at h
theorem Zmc {ps ds : List Pf} (h : Sim ps ds) (a : Int) : ds.map Pf.k = [a + 1] ↔ ps.map Pf.k = [a] := by
 rw [Zik h]
 generalize ps.map Pf.k = l
 cases l with
 | nil => simp
 | cons x r =>
  cases r with
  | nil => simp
  | cons y r => simp
theorem Zil (ds : List Pf) : Xt 1 ds = true ↔ ds.map Pf.k = [2] := by
 unfold Xt
 cases ds with
 | nil => simp
 | cons p r =>
  cases r with
  | nil => simp
  | cons q r => simp
theorem Zrm (R : Rdr) (n : Int) {l r : List Pf} (h : Sim l r) : Zch R l = match (if Xt 1 r = true then some (⟨1, [], ⟨#[]⟩, (r.map Pf.n).headD 0, 0, 0, ⟨#[]⟩, 0, 0, ⟨#[]⟩, r.any Pf.f⟩ : SD) else none) with | none => .bad 141 | some y => Yn R n y := by
 have h1 := Zmc h 1
 have ha := Zel h
 unfold Zch
 by_cases hn : Xt 1 r = true
 ·have h2 := h1.1 ((Zil r).1 hn)
  rw [if_pos hn, ha]
  simp only [Yn, if_pos]
  obtain ⟨p, rfl, hp⟩ := Zkg h2
  cases h with
  | cons a1 a2 =>
   cases a2
   rename_i d
   by_cases hs : R.sized = true ∨ R.fs ≠ []
   ·rw [if_pos hs, if_pos (by rcases hs with h | h <;> simp [h])]
   ·rw [if_neg hs, if_neg (by
     rintro (h | h | h)
     ·exact hs (.inl h)
     ·exact hs (.inr h)
     ·exact h h2)]
    by_cases hf : [p].any Pf.f = true
    ·rw [if_pos hf, if_pos hf]
    ·rw [if_neg hf, if_neg hf]
     have hpf : p.f = false := by simpa using hf
     simp [a1.2.2.2 hpf]
 ·have h2 : l.map Pf.k ≠ [1] := fun e => hn ((Zil r).2 (h1.2 e))
  rw [if_neg hn, if_pos (.inr (.inr h2))]
theorem Zrn (R : Rdr) (n : Int) {l r : List Pf} (h : Sim l r) (hf : ∀ p ∈ l, FlP p) : Zdd R l = match (if r.map Pf.k = [3] then some (⟨2, [], ⟨#[]⟩, 0, 0, 0, (r.map Pf.s).headD ⟨#[]⟩, 0, 0, ⟨#[]⟩, r.any Pf.f⟩ : SD) else none) with | none => .bad 141 | some y => Yn R n y := by
 have h1 := Zmc h 2
 have ha := Zel h
 unfold Zdd
 by_cases hn : r.map Pf.k = [3]
 ·have h2 := h1.1 hn
  rw [if_pos hn, ha]
  simp only [Yn]
  rw [if_neg (show ¬ (2 : Int) = 1 by decide), if_pos trivial]
  obtain ⟨p, rfl, hp⟩ := Zkg h2
  cases h with
  | cons a1 a2 =>
   cases a2
   rename_i d
   have hpf : p.f = false := by
    cases hv : p.f with
    | false => rfl
    | true => have := hf p List.mem_cons_self hv; omega
   by_cases hs : R.fs ≠ []
   ·rw [if_pos hs, if_pos (.inl hs)]
   ·rw [if_neg hs, if_neg (by
     rintro (h | h)
     ·exact hs h
     ·exact h h2), if_neg (by simp [hpf])]
    simp [a1.2.1 (by omega)]
 ·have h2 : l.map Pf.k ≠ [2] := fun e => hn (h1.2 e)
  rw [if_neg hn, if_pos (.inr h2)]
theorem Zro (R : Rdr) (n : Int) {l r : List Pf} (h : Sim l r) (hf : ∀ p ∈ l, FlP p) : Zco R l = match Zgp (r.any Pf.f) r with | none => .bad 141 | some y => Yn R n y := by
 have ha := Zel h
 rw [ha]
 match l, r, h with
 | [], _, .nil => rfl
 | [_], _, .cons _ .nil => rfl
 | [_, _], _, .cons _ (.cons _ .nil) => rfl
 | [_, _, _], _, .cons _ (.cons _ (.cons _ .nil)) => rfl
 | _ :: _ :: _ :: _ :: _ :: _, _, .cons _ (.cons _ (.cons _ (.cons _ (.cons _ _)))) => rfl
 | [p, q1, q2, q3], _, .cons (d := d) a1 (.cons (d := e1) b1 (.cons (d := e2) b2 (.cons (d := e3) b3 .nil))) =>
  obtain ⟨a1, a2, a3, a4⟩ := a1
  obtain ⟨b11, b12, b13, b14⟩ := b1
  obtain ⟨b21, b22, b23, b24⟩ := b2
  obtain ⟨b31, b32, b33, b34⟩ := b3
  dsimp only [Zco, Zgp]
  by_cases hk : [p.k, q1.k, q2.k, q3.k] = [0, 1, 1, 1]
  ·have hk' : p.k = 0 ∧ q1.k = 1 ∧ q2.k = 1 ∧ q3.k = 1 := by simpa using hk
   obtain ⟨k0, k1, k2, k3⟩ := hk'
   have hd : d.k = 1 ∧ Xt 3 [e1, e2, e3] = true := ⟨by omega, by simp [Xt]; omega⟩
   have hpf : p.f = false := by
    cases hv : p.f with
    | false => rfl
    | true => have := hf p List.mem_cons_self hv; omega
   rw [if_neg (fun e => e hk), if_pos hd]
   simp only [Yn]
   rw [if_neg (show ¬ (3 : Int) = 1 by decide), if_neg (show ¬ (3 : Int) = 2 by decide), if_pos trivial]
   have e1' : [p, q1, q2, q3].any Pf.f = (p.f || (q1.f || (q2.f || q3.f))) := by simp
   rw [e1']
   by_cases hb : (p.f || (q1.f || (q2.f || q3.f))) = true
   ·rw [if_pos hb, if_pos hb]
   ·rw [if_neg hb, if_neg hb, a2 (by omega)]
    have hb' : (p.f || (q1.f || (q2.f || q3.f))) = false := by simpa using hb
    rw [Bool.or_eq_false_iff, Bool.or_eq_false_iff, Bool.or_eq_false_iff] at hb'
    rw [b14 hb'.2.1, b24 hb'.2.2.1, b34 hb'.2.2.2]
  ·rw [if_pos hk, if_neg (fun e => hk (by
    have := e.2
    simp [Xt] at this
    have := e.1
    simp
    omega))]
theorem Zim (R : Rdr) (n : Int) {b : List UInt8} {ps ds : List Pf} (hc : Yc b = some ps) (h : Sim ps ds) : Zb3 R n (some ps) = Zna R n ds := by
 have hf := Zuf hc
 obtain ⟨l1, l2, l3⟩ := Zmb h hf
 unfold Zb3 Zna Yt
 simp only
 by_cases hd : ds = []
 ·have hp := (Zdl h).1 hd
  subst hp
  subst hd
  simp [Yl, Zes, Yn]
 ·have hp : ps ≠ [] := fun e => hd ((Zdl h).2 e)
  rw [if_neg hd, l3]
  by_cases hl : (Yl ps).1 = []
  ·rw [if_pos hl, if_pos (by rw [← l1]; exact hl)]
   have hl2 : ∀ p ∈ (Yl ps).2, FlP p := fun p hq => hf p ((Zev ps).2 p hq)
   have hqn : (Yy ds).2 ≠ [] := by rw [Zgo ds (by rw [← l1]; exact hl)]; exact hd
   clear l3 hf hc h
   generalize (Yl ps).2 = qs at *
   generalize (Yy ds).2 = es at *
   cases l2 with
   | nil => exact absurd rfl hqn
   | cons h1 h2 =>
    rename_i p d l r
    have h3 : Sim (p :: l) (d :: r) := .cons h1 h2
    obtain ⟨a1, a2, a3, a4⟩ := h1
    simp only [Zes, Zek]
    by_cases h0 : p.k = 0
    ·have hpf : p.f = false := by
      cases hv : p.f with
      | false => rfl
      | true => have := hl2 p List.mem_cons_self hv; omega
     rw [if_neg (fun e => e h0), if_pos (show d.k = 1 by omega)]
     have hb : (d :: r).any Pf.f = r.any Pf.f := by rw [List.any_cons, a3, hpf]; rfl
     unfold Zdh
     rw [a2 (by omega)]
     have hlr := fun q hq => hl2 q (List.mem_cons_of_mem _ hq)
     by_cases hm : p.s = Zhk
     ·rw [if_pos hm, if_pos hm, hb]
      exact Zrm R n h2
     rw [if_neg hm, if_neg hm]
     by_cases hm2 : p.s = Zhl
     ·rw [if_pos hm2, if_pos hm2, hb]
      exact Zrn R n h2 hlr
     rw [if_neg hm2, if_neg hm2]
     by_cases hm3 : p.s = Zhm
     ·rw [if_pos hm3, if_pos hm3, hb]
      exact Zro R n h2 hlr
     rw [if_neg hm3, if_neg hm3]
     exact Zij R n [] h3 (.inr (by simp))
    ·rw [if_pos h0, if_neg (show ¬ d.k = 1 by omega)]
     have : Zas (d :: r) = none := by simp only [Zas]; rw [if_neg (show ¬ d.k = 1 by omega)]
     simp [Wh, this]
  ·rw [if_neg hl, if_neg (by rw [← l1]; exact hl), l1]
   exact Zij R n _ l2 (.inl (by rw [← l1]; exact hl))
theorem Zin (R : Rdr) (n : Int) {b : List UInt8} {ps ds : List Pf} {y : SD} (hc : Yc b = some ps) (h : Sim ps ds) (hy : Yt ds = some y) : Zb3 R n (Yc b) = Yn R n y := by
 rw [hc, Zim R n hc h]
 simp only [Zna, hy]
theorem Zrp (R : Rdr) (n : Int) {b : List UInt8} (h : Yc b = none ∨ ∃ ps ds, Yc b = some ps ∧ Sim ps ds ∧ Yt ds = none) : Zb3 R n (Yc b) = .bad 141 := by
 rcases h with h | ⟨ps, ds, h1, h2, h3⟩
 ·rw [h]; rfl
 ·rw [h1, Zim R n h1 h2]
  simp only [Zna, h3]
end Go.Proofs.YtgoabnehdmdikaaGreatDoor
namespace Go.Proofs.YtgoabnehdmdikaaGreatDoor
open Go.RowKit
theorem Zv4 : (Tryz.prog.info? 3).map (fun i => (i.zero, i.size, i.bytes)) = some (some (.int .i64 0), 1, 8) := by kernel_rfl
theorem Zuh : (Tryz.prog.info? 37).map (fun i => (i.zero, i.size, i.bytes)) = some (some (.slice none 0 0), 1, 24) := by kernel_rfl
theorem Zui : (Tryz.prog.info? 73).map (fun i => (i.zero, i.size, i.bytes)) = some (some (.slice none 0 0), 1, 24) := by kernel_rfl
theorem Zuj : (Tryz.prog.info? 71).map (fun i => (i.zero, i.size, i.bytes)) = some (some (.agg #[.int .i64 0, .int .i64 0, .int .i64 0, .string ⟨#[]⟩, .bool false]), 5, 48) := by kernel_rfl
theorem Zuk {w0 W : World} {v : Value} {k : Nat} {xs : List Value} (h : W.ownsRow w0.heap.size 3 1 v k xs) (x0 : Value) (h0 : x0.oneCell' = true) (hk : Kept nF w0 W) (hl : k ≤ 900000) :
  ∃ v' w', (Builtin.append_ #[73, 73] 73 #[v, .slice (some ⟨W.heap.size, 0, none⟩) 1 1]).run Tryz.prog (W.alloc (.cells #[x0] 3)) = .ok v' w' ∧ w'.ownsRow w0.heap.size 3 1 v' (k + 1) (xs ++ [x0]) ∧ Kept nF w0 w' ∧ Kept (fun q => v.ownBlock = some q) W w' ∧ Xx W v v' := by
 obtain ⟨i0, hi, hz0, hz1, hz2⟩ := info_parts Zv4
 obtain ⟨v', w', hr, h2', h3', h4, _⟩ := Zaa (P := Tryz.prog) (W.alloc (.cells #[x0] 3)) w0.heap.size 73 73 3 i0 _ 1 8 Tryz.underlying73 hi hz0 hz1 hz2 rfl (by decide) v k xs (h.alloc _) ⟨W.heap.size, 0, none⟩ 1 1 [x0] (by simp) (fun j u hj => by
  have hjl := (List.getElem?_eq_some_iff.1 hj).1
  rw [Addr.add_lit, Nat.zero_add, Zb _ _ _ _ _ _ (heap_alloc_new W _)]
  simpa using hj) (fun u hu => by
   simp at hu
   subst hu
   assumption) (by unfold maxLen; omega) (by omega) (by have := hk.size; simp; omega)
 have hk1 : Kept (fun k => v.ownBlock = some k) W w' := ((Kept.refl _ W).alloc _).grown h3' (fun k hk => .inr hk)
 exact ⟨v', w', hr, h2', hk.step hk1 (fun i hi e => by have := (h.lt i e).1; omega), hk1, by simpa [Xx] using h4⟩
theorem Zul {w0 W : World} {v : Value} {k : Nat} {xs : List Value} (h : W.ownsRow w0.heap.size 37 1 v k xs) (x0 : Value) (h0 : x0.oneCell' = true) (hk : Kept nF w0 W) (hl : k ≤ 900000) :
  ∃ v' w', (Builtin.append_ #[59, 59] 59 #[v, .slice (some ⟨W.heap.size, 0, none⟩) 1 1]).run Tryz.prog (W.alloc (.cells #[x0] 37)) = .ok v' w' ∧ w'.ownsRow w0.heap.size 37 1 v' (k + 1) (xs ++ [x0]) ∧ Kept nF w0 w' ∧ Kept (fun q => v.ownBlock = some q) W w' ∧ Xx W v v' := by
 obtain ⟨i0, hi, hz0, hz1, hz2⟩ := info_parts Zuh
 obtain ⟨v', w', hr, h2', h3', h4, _⟩ := Zaa (P := Tryz.prog) (W.alloc (.cells #[x0] 37)) w0.heap.size 59 59 37 i0 _ 1 24 Tryz.underlying59 hi hz0 hz1 hz2 rfl (by decide) v k xs (h.alloc _) ⟨W.heap.size, 0, none⟩ 1 1 [x0] (by simp) (fun j u hj => by
  have hjl := (List.getElem?_eq_some_iff.1 hj).1
  rw [Addr.add_lit, Nat.zero_add, Zb _ _ _ _ _ _ (heap_alloc_new W _)]
  simpa using hj) (fun u hu => by
   simp at hu
   subst hu
   assumption) (by unfold maxLen; omega) (by omega) (by have := hk.size; simp; omega)
 have hk1 : Kept (fun k => v.ownBlock = some k) W w' := ((Kept.refl _ W).alloc _).grown h3' (fun k hk => .inr hk)
 exact ⟨v', w', hr, h2', hk.step hk1 (fun i hi e => by have := (h.lt i e).1; omega), hk1, by simpa [Xx] using h4⟩
theorem Zum {w0 W : World} {v : Value} {k : Nat} {xs : List Value} (h : W.ownsRow w0.heap.size 73 1 v k xs) (x0 : Value) (h0 : x0.oneCell' = true) (hk : Kept nF w0 W) (hl : k ≤ 900000) :
  ∃ v' w', (Builtin.append_ #[60, 60] 60 #[v, .slice (some ⟨W.heap.size, 0, none⟩) 1 1]).run Tryz.prog (W.alloc (.cells #[x0] 73)) = .ok v' w' ∧ w'.ownsRow w0.heap.size 73 1 v' (k + 1) (xs ++ [x0]) ∧ Kept nF w0 w' ∧ Kept (fun q => v.ownBlock = some q) W w' ∧ Xx W v v' := by
 obtain ⟨i0, hi, hz0, hz1, hz2⟩ := info_parts Zui
 obtain ⟨v', w', hr, h2', h3', h4, _⟩ := Zaa (P := Tryz.prog) (W.alloc (.cells #[x0] 73)) w0.heap.size 60 60 73 i0 _ 1 24 Tryz.underlying60 hi hz0 hz1 hz2 rfl (by decide) v k xs (h.alloc _) ⟨W.heap.size, 0, none⟩ 1 1 [x0] (by simp) (fun j u hj => by
  have hjl := (List.getElem?_eq_some_iff.1 hj).1
  rw [Addr.add_lit, Nat.zero_add, Zb _ _ _ _ _ _ (heap_alloc_new W _)]
  simpa using hj) (fun u hu => by
   simp at hu
   subst hu
   assumption) (by unfold maxLen; omega) (by omega) (by have := hk.size; simp; omega)
 have hk1 : Kept (fun k => v.ownBlock = some k) W w' := ((Kept.refl _ W).alloc _).grown h3' (fun k hk => .inr hk)
 exact ⟨v', w', hr, h2', hk.step hk1 (fun i hi e => by have := (h.lt i e).1; omega), hk1, by simpa [Xx] using h4⟩
theorem Zun {w0 W : World} {v : Value} {k : Nat} {xs : List Value} (h : W.ownsRow w0.heap.size 71 5 v k xs) (x0 x1 x2 x3 x4 : Value) (h0 : x0.oneCell' = true) (h1 : x1.oneCell' = true) (h2 : x2.oneCell' = true) (h3 : x3.oneCell' = true) (h4 : x4.oneCell' = true) (hk : Kept nF w0 W) (hl : k ≤ 900000) :
  ∃ v' w', (Builtin.append_ #[61, 61] 61 #[v, .slice (some ⟨W.heap.size, 0, none⟩) 1 1]).run Tryz.prog (W.alloc (.cells #[x0, x1, x2, x3, x4] 71)) = .ok v' w' ∧ w'.ownsRow w0.heap.size 71 5 v' (k + 1) (xs ++ [x0, x1, x2, x3, x4]) ∧ Kept nF w0 w' ∧ Kept (fun q => v.ownBlock = some q) W w' ∧ Xx W v v' := by
 obtain ⟨i0, hi, hz0, hz1, hz2⟩ := info_parts Zuj
 obtain ⟨v', w', hr, h2', h3', h4, _⟩ := Zaa (P := Tryz.prog) (W.alloc (.cells #[x0, x1, x2, x3, x4] 71)) w0.heap.size 61 61 71 i0 _ 5 48 Tryz.underlying61 hi hz0 hz1 hz2 rfl (by decide) v k xs (h.alloc _) ⟨W.heap.size, 0, none⟩ 1 1 [x0, x1, x2, x3, x4] (by simp) (fun j u hj => by
  have hjl := (List.getElem?_eq_some_iff.1 hj).1
  rw [Addr.add_lit, Nat.zero_add, Zb _ _ _ _ _ _ (heap_alloc_new W _)]
  simpa using hj) (fun u hu => by
   simp at hu
   rcases hu with rfl | rfl | rfl | rfl | rfl <;> assumption) (by unfold maxLen; omega) (by omega) (by have := hk.size; simp; omega)
 have hk1 : Kept (fun k => v.ownBlock = some k) W w' := ((Kept.refl _ W).alloc _).grown h3' (fun k hk => .inr hk)
 exact ⟨v', w', hr, h2', hk.step hk1 (fun i hi e => by have := (h.lt i e).1; omega), hk1, by simpa [Xx] using h4⟩
def nmC (f : Fnc) : Value := .string f.nm
def Zbm (f : Fnc) : Nat × List Value := (f.ls.length, f.ls.map (fun x => .string x.1))
def Zby (f : Fnc) : Nat × List Value := (f.ls.length, f.ls.map (fun x => .int .i64 x.2))
def dwC (x : Wt) : List Value := [.int .i64 (x.fn : Int), .int .i64 (x.pl : Int), .int .i64 x.ln, .string x.nm, .bool x.jump]
def Zbd (ws : List Wt) : List Value := ws.flatMap dwC
structure Shp where
 mem : Int
 sized : Bool
 D : List Int
 nf : Nat
 FC : List Value
 CV : List Value
 cx : List (Nat × List Value)
 nx : Nat × List Value
 LV : List Value
 lx : List (Nat × List Value)
 PV : List Value
 px : List (Nat × List Value)
 nw : Nat
 WC : List Value
 dv : Value
 fv : Value
 nv : Value
 lv : Value
 pv : Value
 wv : Value
def Shp.cells (s : Shp) : Array Value := #[.int .i64 s.mem, s.dv, s.fv, .bool s.sized, s.nv, s.lv, s.pv, s.wv]
structure DrY (w0 w : World) (s : Shp) : Prop where
 data : w.ownsRow w0.heap.size 5 1 s.dv s.D.length (Zo s.D)
 fns : w.ownsRow w0.heap.size 78 4 s.fv s.nf s.FC
 code : Fam w w0.heap.size 75 2 s.CV s.cx
 words : Fam w w0.heap.size 9 1 (s.nv :: s.LV) (s.nx :: s.lx)
 labs : w.ownsRow w0.heap.size 37 1 s.lv s.LV.length s.LV
 plcs : w.ownsRow w0.heap.size 73 1 s.pv s.PV.length s.PV
 plc : Fam w w0.heap.size 3 1 s.PV s.px
 wts : w.ownsRow w0.heap.size 71 5 s.wv s.nw s.WC
structure DrZ (w0 w : World) (r : Nat) (s : Shp) : Prop extends DrY w0 w s where
 box : w.heap[r]? = some (.cells s.cells 63 (0, 0))
 kept : Kept nF w0 w
 lo : w0.heap.size ≤ r
def shR (R : Rdr) (CV LV PV : List Value) (dv fv nv lv pv wv : Value) : Shp :=
 ⟨R.mem, R.sized, R.data, R.fs.length, Zw R.fs CV, CV, R.fs.map Yj, (R.fs.length, R.fs.map nmC), LV, R.fs.map Zbm, PV, R.fs.map Zby, R.ws.length, Zbd R.ws, dv, fv, nv, lv, pv, wv⟩
def DrG (w0 w : World) (r : Nat) (R : Rdr) : Prop := ∃ CV LV PV dv fv nv lv pv wv, DrZ w0 w r (shR R CV LV PV dv fv nv lv pv wv)
variable {w0 w w' : World} {r : Nat} {s s' : Shp} {R : Rdr}
theorem DrY.ch {S : Nat → Prop} {t : TypeId} (h : DrY w0 w s) (hk : Kept S w w') (hc : Ch w S t) (hne : t ≠ 5 ∧ t ≠ 78 ∧ t ≠ 75 ∧ t ≠ 9 ∧ t ≠ 37 ∧ t ≠ 73 ∧ t ≠ 3 ∧ t ≠ 71) : DrY w0 w' s :=
 ⟨Zi hk hc h.data hne.1, Zi hk hc h.fns hne.2.1, h.code.ch hk hc hne.2.2.1, h.words.ch hk hc hne.2.2.2.1, Zi hk hc h.labs hne.2.2.2.2.1, Zi hk hc h.plcs hne.2.2.2.2.2.1, h.plc.ch hk hc hne.2.2.2.2.2.2.1, Zi hk hc h.wts hne.2.2.2.2.2.2.2⟩
theorem DrY.same (h : DrY w0 w s) (hk : Kept nF w w') : DrY w0 w' s :=
 ⟨hk.ownsRow h.data (fun _ _ f => f), hk.ownsRow h.fns (fun _ _ f => f), h.code.same hk, h.words.same hk, hk.ownsRow h.labs (fun _ _ f => f), hk.ownsRow h.plcs (fun _ _ f => f), h.plc.same hk, hk.ownsRow h.wts (fun _ _ f => f)⟩
theorem DrZ.same (h : DrZ w0 w r s) (hk : Kept nF w w') : DrZ w0 w' r s := ⟨h.toDrY.same hk, Zc hk h.box id, h.kept.trans hk, h.lo⟩
theorem DrZ.clen {CV LV PV : List Value} {dv fv nv lv pv wv : Value} (h : DrZ w0 w r (shR R CV LV PV dv fv nv lv pv wv)) : CV.length = R.fs.length := by
 have := h.code.len
 simpa [shR] using this
theorem DrZ.llen {CV LV PV : List Value} {dv fv nv lv pv wv : Value} (h : DrZ w0 w r (shR R CV LV PV dv fv nv lv pv wv)) : LV.length = R.fs.length := by
 have := h.words.len
 simpa [shR] using this
theorem DrZ.plen {CV LV PV : List Value} {dv fv nv lv pv wv : Value} (h : DrZ w0 w r (shR R CV LV PV dv fv nv lv pv wv)) : PV.length = R.fs.length := by
 have := h.plc.len
 simpa [shR] using this
theorem DrZ.store {S : Nat → Prop} {w5 : World} (h : DrZ w0 w r s) (hk : Kept S w w5) (hr : ¬ S r) (hS : ∀ q, S q → w0.heap.size ≤ q) (hy : DrY w0 w5 s') (i : Nat) (v : Value) (hb : s'.cells = s.cells.setIfInBounds i v) :
  w5.heap[r]? = some (.cells s.cells 63 (0, 0)) ∧ DrZ w0 (w5.setCell ⟨r, i, none⟩ v) r s' := by
 have hb5 := Zc hk h.box hr
 have hs := Zg w5 r i v
 refine ⟨hb5, ⟨hy.ch hs (Yx hb5) (by decide), ?_, (h.kept.step hk (fun q hq e => by have := hS q e; omega)).setCell (.inl h.lo) _, h.lo⟩⟩
 rw [Zf _ _ i _ _ _ hb5 v, hb]
theorem DrZ.not_own (h : DrZ w0 w r s) {B e k n : Nat} {v : Value} {xs : List Value} (ho : w.ownsRow B e k v n xs) (hne : e ≠ 63) : v.ownBlock ≠ some r := fun hq => by
 obtain ⟨cs, f, e1⟩ := Yz ho r hq
 rw [h.box] at e1
 simp only [Option.some.injEq, Obj.cells.injEq] at e1
 exact hne e1.2.1.symm
def Xw (R : Rdr) (k : Int) : Bool := if k = 1 then !R.sized && decide (R.fs = []) else if k = 2 then decide (R.fs = []) else if k = 4 then decide (R.fs ≠ []) else true
theorem nz0 (n : Nat) : ((n : Int) == 0) = decide (n = 0) := by
 rw [Bool.eq_iff_iff]
 simp
theorem Zdz {CV LV PV : List Value} {dv fv nv lv pv wv : Value} (h : DrZ w0 w r (shR R CV LV PV dv fv nv lv pv wv)) (hl : R.fs.length ≤ 90000) (x : SL) : Calls Tryz.prog 43 #[.pointer (some ⟨r, 0, none⟩), .agg x.cells] w fun e w' => e = .returned (.bool (Xw R x.k)) ∧ Kept nF w w' := by
 obtain ⟨fa, fc, hfv⟩ := Zd h.fns
 have hfv : fv = .slice fa R.fs.length fc := hfv
 have hka : Kept nF w (w.alloc (.cells x.cells 66)) := (Kept.refl _ _).alloc _
 have hba := heap_alloc_new w (.cells x.cells 66)
 have hbb := Zc hka h.box id
 have c2 := Zb _ _ 2 _ _ _ hbb
 have c3 := Zb _ _ 3 _ _ _ hbb
 have x0 := Zb _ _ 0 _ _ _ hba
 have HKA := Za hka
 obtain ⟨k, j1, j2, j3, j4, j5, j6, j7, j8, j9, j10⟩ := x
 obtain ⟨n, hn⟩ := nmd (R.fs.length)
 rw [← hn] at hfv
 obtain ⟨q, hq⟩ := nmd (Xw R k)
 have e0 : decide (R.fs = []) = decide (n = 0) := by
  rw [hn, decide_eq_decide]
  exact List.length_eq_zero_iff.symm
 have e1 : decide (R.fs ≠ []) = decide (0 < n) := by
  rw [hn, decide_eq_decide]
  exact ⟨fun h => List.length_pos_iff.2 h, fun h => List.length_pos_iff.1 h⟩
 show Calls _ _ _ _ fun e w' => e = .returned (.bool (Xw R k)) ∧ _
 obtain ⟨b, hbz⟩ := nmd (R.sized)
 unfold Xw at hq ⊢
 rw [e0, e1, ← hbz] at hq
 rw [e0, e1, ← hbz, ← hq]
 have HQ := Za hq
 have hnb : (n : Int) ≤ 90000 := by omega
 have c2' : (w.alloc (.cells (⟨k, j1, j2, j3, j4, j5, j6, j7, j8, j9, j10⟩ : SL).cells 66)).cell? ⟨r, 2, none⟩ = some (.slice fa n fc) := by rw [← hfv]; exact c2
 have c3' : (w.alloc (.cells (⟨k, j1, j2, j3, j4, j5, j6, j7, j8, j9, j10⟩ : SL).cells 66)).cell? ⟨r, 3, none⟩ = some (.bool b) := by rw [hbz]; exact c3
 have x0' : (w.alloc (.cells (⟨k, j1, j2, j3, j4, j5, j6, j7, j8, j9, j10⟩ : SL).cells 66)).cell? ⟨w.heap.size, 0, none⟩ = some (.int .i64 k) := x0
 clear h hn hq e0 e1 hbz hba hbb c2 c3 x0 hka hl hfv
 simp only [SL.cells] at *
 go_enter Tryz.func43, Tryz.ntmps43
 by_cases k1 : k = 1
 ·subst k1
  have HQ1 : Hid (q = (!b && decide (n = 0))) := HQ.out
  clear HQ
  cases b
  all_goals
   go_wp2
   all_goals first
    | (rename_i hh; exact absurd hh (by decide))
    | (
      go_ret
      refine ⟨?_, HKA.out⟩
      rw [HQ1.out]
      simp [nz0])
 by_cases k2 : k = 2
 ·subst k2
  have HQ1 : Hid (q = decide (n = 0)) := HQ.out
  clear HQ
  go_wp2
  go_ret
  refine ⟨?_, HKA.out⟩
  rw [HQ1.out]
  simp [nz0]
 by_cases k4 : k = 4
 ·subst k4
  have HQ1 : Hid (q = decide (0 < n)) := HQ.out
  clear HQ
  go_wp2
  go_ret
  refine ⟨?_, HKA.out⟩
  rw [HQ1.out]
  simp [nz0]
 have HQ1 : Hid (q = true) := by
  show _ = _
  rw [HQ.out, if_neg k1, if_neg k2, if_neg k4]
 have k1' : (k == 1) = false := by simpa using k1
 have k2' : (k == 2) = false := by simpa using k2
 have k4' : (k == 4) = false := by simpa using k4
 clear HQ
 go_wp2
 go_ret
 refine ⟨?_, HKA.out⟩
 rw [HQ1.out]
 rfl
end Go.Proofs.YtgoabnehdmdikaaGreatDoor

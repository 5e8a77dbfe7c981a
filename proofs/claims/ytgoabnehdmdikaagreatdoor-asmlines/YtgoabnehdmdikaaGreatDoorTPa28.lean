import Derived.Test.YtgoabnehdmdikaaGreatDoorTPa22
import Derived.Test.YtgoabnehdmdikaaGreatDoorTPa27
namespace Go.Proofs.YtgoabnehdmdikaaGreatDoor
open Go.RowKit
set_option linter.unusedVariables false
set_option linter.unusedSimpArgs false
set_option maxRecDepth 100000
abbrev FlP (p : Pf) : Prop := p.f = true → p.k = 1
theorem beg_fl {x y : CS} {r : Int} (h : begP x r = some y) : ∀ p ∈ y.ps, p ∈ x.ps ∨ FlP p := by
 unfold begP at h
 repeat' split at h
 all_goals first | (cases h; done) | skip
 all_goals
  injection h with h
  subst h
  intro p hp
  simp only [List.mem_append, List.mem_singleton] at hp
  first
   | exact .inl hp
   | (
     rcases hp with hp | rfl
     ·exact .inl hp
     ·exact .inr (fun e => by first | rfl | cases e))
theorem end_fl (x : CS) : ∀ p ∈ (endS x).ps, p ∈ x.ps ∨ FlP p := by
 intro p hp
 unfold endS at hp
 split at hp
 ·simp only [List.mem_append, List.mem_singleton] at hp
  rcases hp with hp | rfl
  ·exact .inl hp
  ·exact .inr (fun e => by first | rfl | cases e)
 ·split at hp
  ·simp only [List.mem_append, List.mem_singleton] at hp
   rcases hp with hp | rfl
   ·exact .inl hp
   ·exact .inr (fun e => rfl)
  ·exact .inl hp
theorem take_fl {x y : CS} {r : Int} (h : takeP x r = some y) : ∀ p ∈ y.ps, p ∈ x.ps ∨ FlP p := by
 unfold takeP at h
 split at h
 ·split at h
  ·injection h with h
   subst h
   exact fun p hp => .inl hp
  ·split at h
   ·intro p hp
    rcases beg_fl h p hp with h1 | h1
    ·exact end_fl x p h1
    ·exact .inr h1
   ·cases h
 ·split at h
  ·unfold withP at h
   repeat' split at h
   all_goals first | (cases h; done) | skip
   all_goals
    injection h with h
    subst h
    intro p hp
    first
     | exact .inl hp
     | (
       simp only [List.mem_append, List.mem_singleton] at hp
       rcases hp with hp | rfl
       ·exact .inl hp
       ·exact .inr (fun e => by first | rfl | cases e))
  ·split at h
   ·unfold escP at h
    repeat' split at h
    all_goals first | (cases h; done) | skip
    all_goals
     injection h with h
     subst h
     exact fun p hp => .inl hp
   ·split at h
    ·unfold digP at h
     repeat' split at h
     all_goals first | (cases h; done) | skip
     all_goals
      injection h with h
      subst h
      exact fun p hp => .inl hp
    ·exact fun p hp => beg_fl h p hp
theorem cut_fl : ∀ (l : List UInt8) (x y : CS), cutF l x = some y → (∀ p ∈ x.ps, FlP p) → ∀ p ∈ y.ps, FlP p
 | [], x, y, h, hp => by
  rw [cutF] at h
  cases h
  exact hp
 | b :: l, x, y, h, hp => by
  rw [cutF] at h
  split at h
  ·cases h
   exact hp
  ·cases ht : takeP x (b.toNat : Int) with
   | none => rw [ht] at h; cases h
   | some z =>
    rw [ht] at h
    exact cut_fl l z y h (fun p hpz => by
     rcases take_fl ht p hpz with h | h
     ·exact hp p h
     ·exact h)
theorem cutV_fl {l : List UInt8} {ps : List Pf} (h : cutV l = some ps) : ∀ p ∈ ps, FlP p := by
 unfold cutV at h
 cases hc : cutF l ⟨[], 0, [], 0⟩ with
 | none => rw [hc] at h; cases h
 | some x =>
  rw [hc] at h
  simp only at h
  split at h
  ·cases h
   intro p hp
   rcases end_fl x p hp with h | h
   ·exact cut_fl l _ x hc (fun q hq => absurd hq List.not_mem_nil) p h
   ·exact h
  ·cases h
theorem sim_lab : ∀ {ps ds : List Pf}, Sim ps ds → (∀ p ∈ ps, FlP p) → (labP ps).1 = (labD ds).1 ∧ Sim (labP ps).2 (labD ds).2 ∧ ds.any Pf.f = (labD ds).2.any Pf.f
 | _, _, .nil, _ => ⟨rfl, .nil, rfl⟩
 | _, _, .cons h .nil, _ => ⟨rfl, .cons h .nil, rfl⟩
 | _, _, .cons (p := p) (d := d) h1 (.cons (p := q) (d := e) (ps := ps) (ds := ds) h2 h3), hf => by
  obtain ⟨a1, a2, a3, a4⟩ := h1
  obtain ⟨b1, b2, b3, b4⟩ := h2
  by_cases hc : p.k = 0 ∧ q.k = 3
  ·have hd : d.k = 1 ∧ e.k = 4 := by omega
   obtain ⟨i1, i2, i3⟩ := sim_lab h3 (fun r hr => hf r (List.mem_cons_of_mem _ (List.mem_cons_of_mem _ hr)))
   rw [labP_cons p q ps hc, labD_cons d e ds hd, i1, a2 (by omega)]
   refine ⟨rfl, i2, ?_⟩
   have f1 : p.f = false := by
    cases hv : p.f with
    | false => rfl
    | true => have := hf p List.mem_cons_self hv; omega
   have f2 : q.f = false := by
    cases hv : q.f with
    | false => rfl
    | true => have := hf q (List.mem_cons_of_mem _ List.mem_cons_self) hv; omega
   rw [List.any_cons, List.any_cons, a3, b3, f1, f2, i3]
   rfl
  ·have hd : ¬ (d.k = 1 ∧ e.k = 4) := by omega
   rw [labP_stop p q ps hc, labD_stop d e ds hd]
   exact ⟨rfl, .cons ⟨a1, a2, a3, a4⟩ (.cons ⟨b1, b2, b3, b4⟩ h3), rfl⟩
theorem sim_any : ∀ {ps ds : List Pf}, Sim ps ds → ds.any Pf.f = ps.any Pf.f
 | _, _, .nil => rfl
 | _, _, .cons h1 h2 => by rw [List.any_cons, List.any_cons, sim_any h2, h1.2.2.1]
theorem sim_nil {ps ds : List Pf} (h : Sim ps ds) : ds = [] ↔ ps = [] := by
 cases h <;> simp
theorem sim_oper (n kd : Nat) {ps ds : List Pf} (h : Sim ps ds) : (operD n kd ds = none ↔ operF n (kd : Int) ps = none) ∧ (ps.any Pf.f = false → operD n kd ds = operF n (kd : Int) ps) := by
 have e0 : ((kd : Int) = 0) = (kd = 0) := by simp
 have e3 : ((kd : Int) = 3 ∨ (kd : Int) = 4) = (kd = 3 ∨ kd = 4) := by
  apply propext; omega
 have e5 : ((kd : Int) = 5) = (kd = 5) := by apply propext; omega
 cases h with
 | nil =>
  simp only [operD, operF, e0]
  exact ⟨trivial, fun _ => trivial⟩
 | cons h1 h2 =>
  obtain ⟨a1, a2, a3, a4⟩ := h1
  rename_i p d ps ds
  simp only [operD, operF, e0, e3, e5]
  by_cases k0 : kd = 0
  ·rw [if_pos k0, if_pos k0]; exact ⟨Iff.rfl, fun _ => rfl⟩
  rw [if_neg k0, if_neg k0]
  by_cases hr : ps = []
  ·rw [if_pos hr, if_pos ((sim_nil h2).2 hr)]
   by_cases h1 : p.k = 1
   ·rw [if_pos h1, if_pos (by omega)]
    refine ⟨by simp, fun hf => ?_⟩
    have hpf : p.f = false := by
     rw [List.any_cons] at hf
     simp at hf
     exact hf.1
    rw [a4 hpf]
   ·rw [if_neg h1, if_neg (by omega)]
    by_cases h0 : p.k = 0
    ·rw [if_pos h0, if_pos (by omega), a2 h1]
     by_cases k5 : kd = 5
     ·have k34 : ¬ (kd = 3 ∨ kd = 4) := by omega
      rw [if_pos k5, if_neg k34, if_pos k5]
      exact ⟨Iff.rfl, fun _ => rfl⟩
     ·rw [if_neg k5, if_neg k5]
      exact ⟨Iff.rfl, fun _ => rfl⟩
    ·rw [if_neg h0, if_neg (by omega)]
     exact ⟨Iff.rfl, fun _ => rfl⟩
  ·rw [if_neg hr, if_neg (fun e => hr ((sim_nil h2).1 e))]
   exact ⟨Iff.rfl, fun _ => rfl⟩
theorem rowS_kix (n : Nat) (h : n < insL.length) : (rowS insL (n : Int)).o = (kix n : Int) := by
 have h46 : n < 46 := h
 unfold rowS
 rw [if_pos ⟨by omega, by omega⟩]
 exact (kix_lt n h46).2
theorem sim_instr {ps ds : List Pf} (h : Sim ps ds) (hne : ps ≠ []) : (instrD ds = none ↔ instrF ps = none) ∧ (ps.any Pf.f = false → instrD ds = instrF ps) := by
 cases h with
 | nil => exact absurd rfl hne
 | cons h1 h2 =>
  obtain ⟨a1, a2, a3, a4⟩ := h1
  rename_i p d ps ds
  simp only [instrD, instrF]
  by_cases h0 : p.k = 0
  ·rw [if_pos h0, if_pos (by omega), a2 (by omega)]
   cases hx : ixN insL p.s with
   | none => exact ⟨Iff.rfl, fun _ => rfl⟩
   | some n =>
    simp only
    rw [rowS_kix n (ixN_lt hx)]
    refine ⟨(sim_oper n (kix n) h2).1, fun hf => (sim_oper n (kix n) h2).2 ?_⟩
    rw [List.any_cons, Bool.or_eq_false_iff] at hf
    exact hf.2
  ·rw [if_neg h0, if_neg (by omega)]
   exact ⟨Iff.rfl, fun _ => rfl⟩
theorem oper_word {n kd : Nat} {l : List Pf} {op a : Int} {w : ByteArray} (h : operD n kd l = some (op, a, w)) : op = (n : Int) ∧ (w ≠ ⟨#[]⟩ → kd = 3 ∨ kd = 4) := by
 unfold operD at h
 repeat' split at h
 all_goals first | (cases h; done) | skip
 all_goals
  cases h
  refine ⟨rfl, fun e => ?_⟩
  first
   | assumption
   | exact absurd rfl e
theorem instr_word {l : List Pf} {op a : Int} {w : ByteArray} (h : instrD l = some (op, a, w)) (hl : l ≠ []) : 0 ≤ op ∧ op < 46 ∧ (w ≠ ⟨#[]⟩ → kix op.toNat = 3 ∨ kix op.toNat = 4) := by
 unfold instrD at h
 cases l with
 | nil => exact absurd rfl hl
 | cons p r =>
  simp only at h
  split at h
  ·cases hx : ixN insL p.s with
   | none => rw [hx] at h; cases h
   | some n =>
    rw [hx] at h
    obtain ⟨h1, h2⟩ := oper_word h
    have h46 : n < 46 := ixN_lt hx
    subst h1
    exact ⟨by omega, by omega, by simpa using h2⟩
  ·cases h
theorem kix_jump : ∀ n, n < 46 → (kix n = 3 ∨ kix n = 4) → (kix n = 3 ↔ n ≠ 17) := by decide
def addWD (k : Nat) (f : Fnc) (n op : Int) (w : ByteArray) : List Wt := if w = ⟨#[]⟩ then [] else [⟨n, k, f.code.length, w, decide (kix op.toNat = 3)⟩]
def takC (R : Rdr) (n : Int) (y : SD) (gs : List Fnc) (f : Fnc) : RR :=
 if y.big = true then .bad 143 else match labF f y.ls with
  | none => .bad 142
  | some g => if y.op < 0 then .good ⟨R.mem, R.sized, R.data, gs ++ [g], R.ws⟩ else .good ⟨R.mem, R.sized, R.data, gs ++ [addC g y.op y.a], R.ws ++ addWD gs.length g n y.op y.wd⟩
def takeD (R : Rdr) (n : Int) (y : SD) : RR :=
 if y.k = 1 then (if R.sized = true ∨ R.fs ≠ [] then .bad 141 else if y.big = true then .bad 143 else .good ⟨y.n0, true, R.data, R.fs, R.ws⟩)
 else if y.k = 2 then (if R.fs ≠ [] then .bad 141 else if y.big = true then .bad 143 else .good ⟨R.mem, R.sized, R.data ++ bytI y.dt, R.fs, R.ws⟩)
 else if y.k = 3 then (if y.big = true then .bad 143 else if (lkA (nmL 0 R.fs) y.nm).isSome = true then .bad 142 else .good ⟨R.mem, R.sized, R.data, R.fs ++ [⟨y.nm, y.n0, y.n1, y.n2, [], []⟩], R.ws⟩)
 else if y.k = 4 then (match R.fs.getLast? with | none => .bad 141 | some f => takC R n y R.fs.dropLast f)
 else if y.big = true then .bad 143 else .good R
def refP (R : Rdr) (n : Int) (ds : List Pf) : RR := match saidD ds with | none => .bad 141 | some y => takeD R n y
theorem addW_eq (k : Nat) (f : Fnc) (n : Int) {l : List Pf} {op a : Int} {w : ByteArray} (h : instrD l = some (op, a, w)) (hl : l ≠ []) : addWD k f n op w = addW k f n op w := by
 unfold addWD addW
 by_cases hw : w = ⟨#[]⟩
 ·rw [if_pos hw, if_pos hw]
 ·rw [if_neg hw, if_neg hw]
  obtain ⟨h0, h46, h3⟩ := instr_word h hl
  have h5 := kix_jump op.toNat (by omega) (h3 hw)
  have h6 : decide (kix op.toNat = 3) = !decide (op = 17) := by
   rw [Bool.eq_iff_iff]
   simp only [decide_eq_true_eq, Bool.not_eq_true', decide_eq_false_iff_not, h5]
   omega
  rw [h6]
theorem link_code (R : Rdr) (n : Int) (ls : List ByteArray) {ps ds : List Pf} (h : Sim ps ds) (hne : ls ≠ [] ∨ ps ≠ []) : codeP R n ls ps = match codD ls ds (ds.any Pf.f) with | none => .bad 141 | some y => takeD R n y := by
 have ha := sim_any h
 unfold codeP
 cases hg : R.fs.getLast? with
 | none =>
  simp only
  unfold codD
  cases hi : instrD ds with
  | none => rfl
  | some z => obtain ⟨op, a, w⟩ := z; simp [takeD, hg]
 | some f =>
  simp only
  unfold codeF codD
  by_cases hp : ps = []
  ·have hd := (sim_nil h).2 hp
   subst hp
   subst hd
   simp [instrD, takeD, hg, takC]
   cases labF f ls <;> rfl
  ·have hd : ds ≠ [] := fun e => hp ((sim_nil h).1 e)
   obtain ⟨s1, s2⟩ := sim_instr h hp
   cases hi : instrD ds with
   | none => rw [if_pos ⟨hp, s1.1 hi⟩]
   | some z =>
    obtain ⟨op, a, w⟩ := z
    have hi' : ¬ (ps ≠ [] ∧ instrF ps = none) := fun e => by
     have := s1.2 e.2
     rw [this] at hi
     cases hi
    rw [if_neg hi', ha]
    simp only [takeD, hg, takC]
    rw [if_neg (show ¬ (4 : Int) = 1 by decide), if_neg (show ¬ (4 : Int) = 2 by decide), if_neg (show ¬ (4 : Int) = 3 by decide), if_pos trivial]
    by_cases hf : ps.any Pf.f = true
    ·rw [if_pos hf, if_pos hf]
    ·rw [if_neg hf, if_neg hf]
     cases hl : labF f ls with
     | none => rfl
     | some g =>
      simp only
      rw [if_neg hp]
      have h9 := s2 (by simpa using hf)
      rw [← h9, hi]
      simp only
      obtain ⟨i0, -, -⟩ := instr_word hi hd
      rw [if_neg (by omega), addW_eq _ g n hi hd]
theorem sim_kinds : ∀ {ps ds : List Pf}, Sim ps ds → ds.map Pf.k = (ps.map Pf.k).map (· + 1)
 | _, _, .nil => rfl
 | _, _, .cons h1 h2 => by rw [List.map_cons, List.map_cons, List.map_cons, sim_kinds h2, h1.1]
theorem one_of {l : List Pf} {a : Int} (h : l.map Pf.k = [a]) : ∃ p, l = [p] ∧ p.k = a := by
 cases l with
 | nil => cases h
 | cons p r =>
  cases r with
  | nil => exact ⟨p, rfl, by injection h⟩
  | cons q r => simp at h
theorem sim_one {ps ds : List Pf} (h : Sim ps ds) (a : Int) : ds.map Pf.k = [a + 1] ↔ ps.map Pf.k = [a] := by
 rw [sim_kinds h]
 generalize ps.map Pf.k = l
 cases l with
 | nil => simp
 | cons x r =>
  cases r with
  | nil => simp
  | cons y r => simp
theorem numsD_one (ds : List Pf) : numsD 1 ds = true ↔ ds.map Pf.k = [2] := by
 unfold numsD
 cases ds with
 | nil => simp
 | cons p r =>
  cases r with
  | nil => simp
  | cons q r => simp
theorem link_mem (R : Rdr) (n : Int) {l r : List Pf} (h : Sim l r) : memP R l = match (if numsD 1 r = true then some (⟨1, [], ⟨#[]⟩, (r.map Pf.n).headD 0, 0, 0, ⟨#[]⟩, 0, 0, ⟨#[]⟩, r.any Pf.f⟩ : SD) else none) with | none => .bad 141 | some y => takeD R n y := by
 have h1 := sim_one h 1
 have ha := sim_any h
 unfold memP
 by_cases hn : numsD 1 r = true
 ·have h2 := h1.1 ((numsD_one r).1 hn)
  rw [if_pos hn, ha]
  simp only [takeD, if_pos]
  obtain ⟨p, rfl, hp⟩ := one_of h2
  cases h with
  | cons a1 a2 =>
   cases a2
   rename_i d
   by_cases hs : R.sized = true ∨ R.fs ≠ []
   ·rw [if_pos hs, if_pos (by rcases hs with h | h <;> simp [h])]
   ·rw [if_neg hs, if_neg (by
     rintro (h | h | h)
     ·exact hs (.inl h)
     ·exact hs (.inr h)
     ·exact h h2)]
    by_cases hf : [p].any Pf.f = true
    ·rw [if_pos hf, if_pos hf]
    ·rw [if_neg hf, if_neg hf]
     have hpf : p.f = false := by simpa using hf
     simp [a1.2.2.2 hpf]
 ·have h2 : l.map Pf.k ≠ [1] := fun e => hn ((numsD_one r).2 (h1.2 e))
  rw [if_neg hn, if_pos (.inr (.inr h2))]
theorem link_dat (R : Rdr) (n : Int) {l r : List Pf} (h : Sim l r) (hf : ∀ p ∈ l, FlP p) : datP R l = match (if r.map Pf.k = [3] then some (⟨2, [], ⟨#[]⟩, 0, 0, 0, (r.map Pf.s).headD ⟨#[]⟩, 0, 0, ⟨#[]⟩, r.any Pf.f⟩ : SD) else none) with | none => .bad 141 | some y => takeD R n y := by
 have h1 := sim_one h 2
 have ha := sim_any h
 unfold datP
 by_cases hn : r.map Pf.k = [3]
 ·have h2 := h1.1 hn
  rw [if_pos hn, ha]
  simp only [takeD]
  rw [if_neg (show ¬ (2 : Int) = 1 by decide), if_pos trivial]
  obtain ⟨p, rfl, hp⟩ := one_of h2
  cases h with
  | cons a1 a2 =>
   cases a2
   rename_i d
   have hpf : p.f = false := by
    cases hv : p.f with
    | false => rfl
    | true => have := hf p List.mem_cons_self hv; omega
   by_cases hs : R.fs ≠ []
   ·rw [if_pos hs, if_pos (.inl hs)]
   ·rw [if_neg hs, if_neg (by
     rintro (h | h)
     ·exact hs h
     ·exact h h2), if_neg (by simp [hpf])]
    simp [a1.2.1 (by omega)]
 ·have h2 : l.map Pf.k ≠ [2] := fun e => hn (h1.2 e)
  rw [if_neg hn, if_pos (.inr h2)]
theorem link_fun (R : Rdr) (n : Int) {l r : List Pf} (h : Sim l r) (hf : ∀ p ∈ l, FlP p) : funP R l = match funD (r.any Pf.f) r with | none => .bad 141 | some y => takeD R n y := by
 have ha := sim_any h
 rw [ha]
 match l, r, h with
 | [], _, .nil => rfl
 | [_], _, .cons _ .nil => rfl
 | [_, _], _, .cons _ (.cons _ .nil) => rfl
 | [_, _, _], _, .cons _ (.cons _ (.cons _ .nil)) => rfl
 | _ :: _ :: _ :: _ :: _ :: _, _, .cons _ (.cons _ (.cons _ (.cons _ (.cons _ _)))) => rfl
 | [p, q1, q2, q3], _, .cons (d := d) a1 (.cons (d := e1) b1 (.cons (d := e2) b2 (.cons (d := e3) b3 .nil))) =>
  obtain ⟨a1, a2, a3, a4⟩ := a1
  obtain ⟨b11, b12, b13, b14⟩ := b1
  obtain ⟨b21, b22, b23, b24⟩ := b2
  obtain ⟨b31, b32, b33, b34⟩ := b3
  dsimp only [funP, funD]
  by_cases hk : [p.k, q1.k, q2.k, q3.k] = [0, 1, 1, 1]
  ·have hk' : p.k = 0 ∧ q1.k = 1 ∧ q2.k = 1 ∧ q3.k = 1 := by simpa using hk
   obtain ⟨k0, k1, k2, k3⟩ := hk'
   have hd : d.k = 1 ∧ numsD 3 [e1, e2, e3] = true := ⟨by omega, by simp [numsD]; omega⟩
   have hpf : p.f = false := by
    cases hv : p.f with
    | false => rfl
    | true => have := hf p List.mem_cons_self hv; omega
   rw [if_neg (fun e => e hk), if_pos hd]
   simp only [takeD]
   rw [if_neg (show ¬ (3 : Int) = 1 by decide), if_neg (show ¬ (3 : Int) = 2 by decide), if_pos trivial]
   have e1' : [p, q1, q2, q3].any Pf.f = (p.f || (q1.f || (q2.f || q3.f))) := by simp
   rw [e1']
   by_cases hb : (p.f || (q1.f || (q2.f || q3.f))) = true
   ·rw [if_pos hb, if_pos hb]
   ·rw [if_neg hb, if_neg hb, a2 (by omega)]
    have hb' : (p.f || (q1.f || (q2.f || q3.f))) = false := by simpa using hb
    rw [Bool.or_eq_false_iff, Bool.or_eq_false_iff, Bool.or_eq_false_iff] at hb'
    rw [b14 hb'.2.1, b24 hb'.2.2.1, b34 hb'.2.2.2]
  ·rw [if_pos hk, if_neg (fun e => hk (by
    have := e.2
    simp [numsD] at this
    have := e.1
    simp
    omega))]
theorem link_line (R : Rdr) (n : Int) {b : List UInt8} {ps ds : List Pf} (hc : cutV b = some ps) (h : Sim ps ds) : lineP R n (some ps) = refP R n ds := by
 have hf := cutV_fl hc
 obtain ⟨l1, l2, l3⟩ := sim_lab h hf
 unfold lineP refP saidD
 simp only
 by_cases hd : ds = []
 ·have hp := (sim_nil h).1 hd
  subst hp
  subst hd
  simp [labP, headP, takeD]
 ·have hp : ps ≠ [] := fun e => hd ((sim_nil h).2 e)
  rw [if_neg hd, l3]
  by_cases hl : (labP ps).1 = []
  ·rw [if_pos hl, if_pos (by rw [← l1]; exact hl)]
   have hl2 : ∀ p ∈ (labP ps).2, FlP p := fun p hq => hf p ((labP_len ps).2 p hq)
   have hqn : (labD ds).2 ≠ [] := by rw [labD_nil ds (by rw [← l1]; exact hl)]; exact hd
   clear l3 hf hc h
   generalize (labP ps).2 = qs at *
   generalize (labD ds).2 = es at *
   cases l2 with
   | nil => exact absurd rfl hqn
   | cons h1 h2 =>
    rename_i p d l r
    have h3 : Sim (p :: l) (d :: r) := .cons h1 h2
    obtain ⟨a1, a2, a3, a4⟩ := h1
    simp only [headP, firstD]
    by_cases h0 : p.k = 0
    ·have hpf : p.f = false := by
      cases hv : p.f with
      | false => rfl
      | true => have := hl2 p List.mem_cons_self hv; omega
     rw [if_neg (fun e => e h0), if_pos (show d.k = 1 by omega)]
     have hb : (d :: r).any Pf.f = r.any Pf.f := by rw [List.any_cons, a3, hpf]; rfl
     unfold wordD
     rw [a2 (by omega)]
     have hlr := fun q hq => hl2 q (List.mem_cons_of_mem _ hq)
     by_cases hm : p.s = memB
     ·rw [if_pos hm, if_pos hm, hb]
      exact link_mem R n h2
     rw [if_neg hm, if_neg hm]
     by_cases hm2 : p.s = datB
     ·rw [if_pos hm2, if_pos hm2, hb]
      exact link_dat R n h2 hlr
     rw [if_neg hm2, if_neg hm2]
     by_cases hm3 : p.s = funB
     ·rw [if_pos hm3, if_pos hm3, hb]
      exact link_fun R n h2 hlr
     rw [if_neg hm3, if_neg hm3]
     exact link_code R n [] h3 (.inr (by simp))
    ·rw [if_pos h0, if_neg (show ¬ d.k = 1 by omega)]
     have : instrD (d :: r) = none := by simp only [instrD]; rw [if_neg (show ¬ d.k = 1 by omega)]
     simp [codD, this]
  ·rw [if_neg hl, if_neg (by rw [← l1]; exact hl), l1]
   exact link_code R n _ l2 (.inl (by rw [← l1]; exact hl))
theorem said_good (R : Rdr) (n : Int) {b : List UInt8} {ps ds : List Pf} {y : SD} (hc : cutV b = some ps) (h : Sim ps ds) (hy : saidD ds = some y) : lineP R n (cutV b) = takeD R n y := by
 rw [hc, link_line R n hc h]
 simp only [refP, hy]
theorem said_bad (R : Rdr) (n : Int) {b : List UInt8} (h : cutV b = none ∨ ∃ ps ds, cutV b = some ps ∧ Sim ps ds ∧ saidD ds = none) : lineP R n (cutV b) = .bad 141 := by
 rcases h with h | ⟨ps, ds, h1, h2, h3⟩
 ·rw [h]; rfl
 ·rw [h1, link_line R n h1 h2]
  simp only [refP, h3]
end Go.Proofs.YtgoabnehdmdikaaGreatDoor
namespace Go.Proofs.YtgoabnehdmdikaaGreatDoor
open Go.RowKit
set_option linter.unusedVariables false
set_option linter.unusedSimpArgs false
set_option maxRecDepth 100000
theorem xInfo3 : (Tryz.prog.info? 3).map (fun i => (i.zero, i.size, i.bytes)) = some (some (.int .i64 0), 1, 8) := by kernel_rfl
theorem xInfo37 : (Tryz.prog.info? 37).map (fun i => (i.zero, i.size, i.bytes)) = some (some (.slice none 0 0), 1, 24) := by kernel_rfl
theorem xInfo73 : (Tryz.prog.info? 73).map (fun i => (i.zero, i.size, i.bytes)) = some (some (.slice none 0 0), 1, 24) := by kernel_rfl
theorem xInfo71 : (Tryz.prog.info? 71).map (fun i => (i.zero, i.size, i.bytes)) = some (some (.agg #[.int .i64 0, .int .i64 0, .int .i64 0, .string ⟨#[]⟩, .bool false]), 5, 48) := by kernel_rfl
theorem push_dn {w0 W : World} {v : Value} {k : Nat} {xs : List Value} (h : W.ownsRow w0.heap.size 3 1 v k xs) (x0 : Value) (h0 : x0.oneCell' = true) (hk : Kept (fun _ => False) w0 W) (hl : k ≤ 900000) :
  ∃ v' w', (Builtin.append_ #[73, 73] 73 #[v, .slice (some ⟨W.heap.size, 0, none⟩) 1 1]).run Tryz.prog (W.alloc (.cells #[x0] 3)) = .ok v' w' ∧ w'.ownsRow w0.heap.size 3 1 v' (k + 1) (xs ++ [x0]) ∧ Kept (fun _ => False) w0 w' ∧ Kept (fun q => v.ownBlock = some q) W w' ∧ NewB W v v' := by
 obtain ⟨i0, hi, hz0, hz1, hz2⟩ := info_parts xInfo3
 obtain ⟨v', w', hr, h2', h3', h4, _⟩ := append_old (P := Tryz.prog) (W.alloc (.cells #[x0] 3)) w0.heap.size 73 73 3 i0 _ 1 8 Tryz.underlying73 hi hz0 hz1 hz2 rfl (by decide) v k xs (h.alloc _) ⟨W.heap.size, 0, none⟩ 1 1 [x0] (by simp) (fun j u hj => by
  have hjl := (List.getElem?_eq_some_iff.1 hj).1
  rw [Addr.add_lit, Nat.zero_add, cell_block _ _ _ _ _ _ (heap_alloc_new W _)]
  simpa using hj) (fun u hu => by
   simp at hu
   subst hu
   assumption) (by unfold maxLen; omega) (by omega) (by have := hk.size; simp; omega)
 have hk1 : Kept (fun k => v.ownBlock = some k) W w' := ((Kept.refl _ W).alloc _).grown h3' (fun k hk => .inr hk)
 exact ⟨v', w', hr, h2', hk.step hk1 (fun i hi e => by have := (h.lt i e).1; omega), hk1, by simpa [NewB] using h4⟩
theorem push_dl {w0 W : World} {v : Value} {k : Nat} {xs : List Value} (h : W.ownsRow w0.heap.size 37 1 v k xs) (x0 : Value) (h0 : x0.oneCell' = true) (hk : Kept (fun _ => False) w0 W) (hl : k ≤ 900000) :
  ∃ v' w', (Builtin.append_ #[59, 59] 59 #[v, .slice (some ⟨W.heap.size, 0, none⟩) 1 1]).run Tryz.prog (W.alloc (.cells #[x0] 37)) = .ok v' w' ∧ w'.ownsRow w0.heap.size 37 1 v' (k + 1) (xs ++ [x0]) ∧ Kept (fun _ => False) w0 w' ∧ Kept (fun q => v.ownBlock = some q) W w' ∧ NewB W v v' := by
 obtain ⟨i0, hi, hz0, hz1, hz2⟩ := info_parts xInfo37
 obtain ⟨v', w', hr, h2', h3', h4, _⟩ := append_old (P := Tryz.prog) (W.alloc (.cells #[x0] 37)) w0.heap.size 59 59 37 i0 _ 1 24 Tryz.underlying59 hi hz0 hz1 hz2 rfl (by decide) v k xs (h.alloc _) ⟨W.heap.size, 0, none⟩ 1 1 [x0] (by simp) (fun j u hj => by
  have hjl := (List.getElem?_eq_some_iff.1 hj).1
  rw [Addr.add_lit, Nat.zero_add, cell_block _ _ _ _ _ _ (heap_alloc_new W _)]
  simpa using hj) (fun u hu => by
   simp at hu
   subst hu
   assumption) (by unfold maxLen; omega) (by omega) (by have := hk.size; simp; omega)
 have hk1 : Kept (fun k => v.ownBlock = some k) W w' := ((Kept.refl _ W).alloc _).grown h3' (fun k hk => .inr hk)
 exact ⟨v', w', hr, h2', hk.step hk1 (fun i hi e => by have := (h.lt i e).1; omega), hk1, by simpa [NewB] using h4⟩
theorem push_dp {w0 W : World} {v : Value} {k : Nat} {xs : List Value} (h : W.ownsRow w0.heap.size 73 1 v k xs) (x0 : Value) (h0 : x0.oneCell' = true) (hk : Kept (fun _ => False) w0 W) (hl : k ≤ 900000) :
  ∃ v' w', (Builtin.append_ #[60, 60] 60 #[v, .slice (some ⟨W.heap.size, 0, none⟩) 1 1]).run Tryz.prog (W.alloc (.cells #[x0] 73)) = .ok v' w' ∧ w'.ownsRow w0.heap.size 73 1 v' (k + 1) (xs ++ [x0]) ∧ Kept (fun _ => False) w0 w' ∧ Kept (fun q => v.ownBlock = some q) W w' ∧ NewB W v v' := by
 obtain ⟨i0, hi, hz0, hz1, hz2⟩ := info_parts xInfo73
 obtain ⟨v', w', hr, h2', h3', h4, _⟩ := append_old (P := Tryz.prog) (W.alloc (.cells #[x0] 73)) w0.heap.size 60 60 73 i0 _ 1 24 Tryz.underlying60 hi hz0 hz1 hz2 rfl (by decide) v k xs (h.alloc _) ⟨W.heap.size, 0, none⟩ 1 1 [x0] (by simp) (fun j u hj => by
  have hjl := (List.getElem?_eq_some_iff.1 hj).1
  rw [Addr.add_lit, Nat.zero_add, cell_block _ _ _ _ _ _ (heap_alloc_new W _)]
  simpa using hj) (fun u hu => by
   simp at hu
   subst hu
   assumption) (by unfold maxLen; omega) (by omega) (by have := hk.size; simp; omega)
 have hk1 : Kept (fun k => v.ownBlock = some k) W w' := ((Kept.refl _ W).alloc _).grown h3' (fun k hk => .inr hk)
 exact ⟨v', w', hr, h2', hk.step hk1 (fun i hi e => by have := (h.lt i e).1; omega), hk1, by simpa [NewB] using h4⟩
theorem push_dw {w0 W : World} {v : Value} {k : Nat} {xs : List Value} (h : W.ownsRow w0.heap.size 71 5 v k xs) (x0 x1 x2 x3 x4 : Value) (h0 : x0.oneCell' = true) (h1 : x1.oneCell' = true) (h2 : x2.oneCell' = true) (h3 : x3.oneCell' = true) (h4 : x4.oneCell' = true) (hk : Kept (fun _ => False) w0 W) (hl : k ≤ 900000) :
  ∃ v' w', (Builtin.append_ #[61, 61] 61 #[v, .slice (some ⟨W.heap.size, 0, none⟩) 1 1]).run Tryz.prog (W.alloc (.cells #[x0, x1, x2, x3, x4] 71)) = .ok v' w' ∧ w'.ownsRow w0.heap.size 71 5 v' (k + 1) (xs ++ [x0, x1, x2, x3, x4]) ∧ Kept (fun _ => False) w0 w' ∧ Kept (fun q => v.ownBlock = some q) W w' ∧ NewB W v v' := by
 obtain ⟨i0, hi, hz0, hz1, hz2⟩ := info_parts xInfo71
 obtain ⟨v', w', hr, h2', h3', h4, _⟩ := append_old (P := Tryz.prog) (W.alloc (.cells #[x0, x1, x2, x3, x4] 71)) w0.heap.size 61 61 71 i0 _ 5 48 Tryz.underlying61 hi hz0 hz1 hz2 rfl (by decide) v k xs (h.alloc _) ⟨W.heap.size, 0, none⟩ 1 1 [x0, x1, x2, x3, x4] (by simp) (fun j u hj => by
  have hjl := (List.getElem?_eq_some_iff.1 hj).1
  rw [Addr.add_lit, Nat.zero_add, cell_block _ _ _ _ _ _ (heap_alloc_new W _)]
  simpa using hj) (fun u hu => by
   simp at hu
   rcases hu with rfl | rfl | rfl | rfl | rfl <;> assumption) (by unfold maxLen; omega) (by omega) (by have := hk.size; simp; omega)
 have hk1 : Kept (fun k => v.ownBlock = some k) W w' := ((Kept.refl _ W).alloc _).grown h3' (fun k hk => .inr hk)
 exact ⟨v', w', hr, h2', hk.step hk1 (fun i hi e => by have := (h.lt i e).1; omega), hk1, by simpa [NewB] using h4⟩
def nmC (f : Fnc) : Value := .string f.nm
def labX (f : Fnc) : Nat × List Value := (f.ls.length, f.ls.map (fun x => .string x.1))
def plcX (f : Fnc) : Nat × List Value := (f.ls.length, f.ls.map (fun x => .int .i64 x.2))
def dwC (x : Wt) : List Value := [.int .i64 (x.fn : Int), .int .i64 (x.pl : Int), .int .i64 x.ln, .string x.nm, .bool x.jump]
def dwCells (ws : List Wt) : List Value := ws.flatMap dwC
structure Shp where
 mem : Int
 sized : Bool
 D : List Int
 nf : Nat
 FC : List Value
 CV : List Value
 cx : List (Nat × List Value)
 nx : Nat × List Value
 LV : List Value
 lx : List (Nat × List Value)
 PV : List Value
 px : List (Nat × List Value)
 nw : Nat
 WC : List Value
 dv : Value
 fv : Value
 nv : Value
 lv : Value
 pv : Value
 wv : Value
def Shp.cells (s : Shp) : Array Value := #[.int .i64 s.mem, s.dv, s.fv, .bool s.sized, s.nv, s.lv, s.pv, s.wv]
structure DrY (w0 w : World) (s : Shp) : Prop where
 data : w.ownsRow w0.heap.size 5 1 s.dv s.D.length (byts s.D)
 fns : w.ownsRow w0.heap.size 78 4 s.fv s.nf s.FC
 code : Fam w w0.heap.size 75 2 s.CV s.cx
 words : Fam w w0.heap.size 9 1 (s.nv :: s.LV) (s.nx :: s.lx)
 labs : w.ownsRow w0.heap.size 37 1 s.lv s.LV.length s.LV
 plcs : w.ownsRow w0.heap.size 73 1 s.pv s.PV.length s.PV
 plc : Fam w w0.heap.size 3 1 s.PV s.px
 wts : w.ownsRow w0.heap.size 71 5 s.wv s.nw s.WC
structure DrZ (w0 w : World) (r : Nat) (s : Shp) : Prop extends DrY w0 w s where
 box : w.heap[r]? = some (.cells s.cells 63 (0, 0))
 kept : Kept (fun _ => False) w0 w
 lo : w0.heap.size ≤ r
def shR (R : Rdr) (CV LV PV : List Value) (dv fv nv lv pv wv : Value) : Shp :=
 ⟨R.mem, R.sized, R.data, R.fs.length, fnCells R.fs CV, CV, R.fs.map codX, (R.fs.length, R.fs.map nmC), LV, R.fs.map labX, PV, R.fs.map plcX, R.ws.length, dwCells R.ws, dv, fv, nv, lv, pv, wv⟩
def DrG (w0 w : World) (r : Nat) (R : Rdr) : Prop := ∃ CV LV PV dv fv nv lv pv wv, DrZ w0 w r (shR R CV LV PV dv fv nv lv pv wv)
variable {w0 w w' : World} {r : Nat} {s s' : Shp} {R : Rdr}
theorem DrY.ch {S : Nat → Prop} {t : TypeId} (h : DrY w0 w s) (hk : Kept S w w') (hc : Ch w S t) (hne : t ≠ 5 ∧ t ≠ 78 ∧ t ≠ 75 ∧ t ≠ 9 ∧ t ≠ 37 ∧ t ≠ 73 ∧ t ≠ 3 ∧ t ≠ 71) : DrY w0 w' s :=
 ⟨own_ch hk hc h.data hne.1, own_ch hk hc h.fns hne.2.1, h.code.ch hk hc hne.2.2.1, h.words.ch hk hc hne.2.2.2.1, own_ch hk hc h.labs hne.2.2.2.2.1, own_ch hk hc h.plcs hne.2.2.2.2.2.1, h.plc.ch hk hc hne.2.2.2.2.2.2.1, own_ch hk hc h.wts hne.2.2.2.2.2.2.2⟩
theorem DrY.same (h : DrY w0 w s) (hk : Kept (fun _ => False) w w') : DrY w0 w' s :=
 ⟨hk.ownsRow h.data (fun _ _ f => f), hk.ownsRow h.fns (fun _ _ f => f), h.code.same hk, h.words.same hk, hk.ownsRow h.labs (fun _ _ f => f), hk.ownsRow h.plcs (fun _ _ f => f), h.plc.same hk, hk.ownsRow h.wts (fun _ _ f => f)⟩
theorem DrZ.same (h : DrZ w0 w r s) (hk : Kept (fun _ => False) w w') : DrZ w0 w' r s := ⟨h.toDrY.same hk, box_kept hk h.box id, h.kept.trans hk, h.lo⟩
theorem DrZ.clen {CV LV PV : List Value} {dv fv nv lv pv wv : Value} (h : DrZ w0 w r (shR R CV LV PV dv fv nv lv pv wv)) : CV.length = R.fs.length := by
 have := h.code.len
 simpa [shR] using this
theorem DrZ.llen {CV LV PV : List Value} {dv fv nv lv pv wv : Value} (h : DrZ w0 w r (shR R CV LV PV dv fv nv lv pv wv)) : LV.length = R.fs.length := by
 have := h.words.len
 simpa [shR] using this
theorem DrZ.plen {CV LV PV : List Value} {dv fv nv lv pv wv : Value} (h : DrZ w0 w r (shR R CV LV PV dv fv nv lv pv wv)) : PV.length = R.fs.length := by
 have := h.plc.len
 simpa [shR] using this
theorem DrZ.store {S : Nat → Prop} {w5 : World} (h : DrZ w0 w r s) (hk : Kept S w w5) (hr : ¬ S r) (hS : ∀ q, S q → w0.heap.size ≤ q) (hy : DrY w0 w5 s') (i : Nat) (v : Value) (hb : s'.cells = s.cells.setIfInBounds i v) :
  w5.heap[r]? = some (.cells s.cells 63 (0, 0)) ∧ DrZ w0 (w5.setCell ⟨r, i, none⟩ v) r s' := by
 have hb5 := box_kept hk h.box hr
 have hs := kept_set w5 r i v
 refine ⟨hb5, ⟨hy.ch hs (ch_box hb5) (by decide), ?_, (h.kept.step hk (fun q hq e => by have := hS q e; omega)).setCell (.inl h.lo) _, h.lo⟩⟩
 rw [set_block _ _ i _ _ _ hb5 v, hb]
theorem DrZ.not_own (h : DrZ w0 w r s) {B e k n : Nat} {v : Value} {xs : List Value} (ho : w.ownsRow B e k v n xs) (hne : e ≠ 63) : v.ownBlock ≠ some r := fun hq => by
 obtain ⟨cs, f, e1⟩ := own_is ho r hq
 rw [h.box] at e1
 simp only [Option.some.injEq, Obj.cells.injEq] at e1
 exact hne e1.2.1.symm
def fitB (R : Rdr) (k : Int) : Bool := if k = 1 then !R.sized && decide (R.fs = []) else if k = 2 then decide (R.fs = []) else if k = 4 then decide (R.fs ≠ []) else true
theorem nz0 (n : Nat) : ((n : Int) == 0) = decide (n = 0) := by
 rw [Bool.eq_iff_iff]
 simp
set_option maxHeartbeats 8000000 in
theorem fitsR {CV LV PV : List Value} {dv fv nv lv pv wv : Value} (h : DrZ w0 w r (shR R CV LV PV dv fv nv lv pv wv)) (hl : R.fs.length ≤ 90000) (x : SL) : Calls Tryz.prog 43 #[.pointer (some ⟨r, 0, none⟩), .agg x.cells] w fun e w' => e = .returned (.bool (fitB R x.k)) ∧ Kept (fun _ => False) w w' := by
 obtain ⟨fa, fc, hfv⟩ := ownsRow_shape h.fns
 have hfv : fv = .slice fa R.fs.length fc := hfv
 have hka : Kept (fun _ => False) w (w.alloc (.cells x.cells 66)) := (Kept.refl _ _).alloc _
 have hba := heap_alloc_new w (.cells x.cells 66)
 have hbb := box_kept hka h.box id
 have c2 := cell_block _ _ 2 _ _ _ hbb
 have c3 := cell_block _ _ 3 _ _ _ hbb
 have x0 := cell_block _ _ 0 _ _ _ hba
 have HKA := hid_of hka
 obtain ⟨k, j1, j2, j3, j4, j5, j6, j7, j8, j9, j10⟩ := x
 obtain ⟨n, hn⟩ := nmd (R.fs.length)
 rw [← hn] at hfv
 obtain ⟨q, hq⟩ := nmd (fitB R k)
 have e0 : decide (R.fs = []) = decide (n = 0) := by
  rw [hn, decide_eq_decide]
  exact List.length_eq_zero_iff.symm
 have e1 : decide (R.fs ≠ []) = decide (0 < n) := by
  rw [hn, decide_eq_decide]
  exact ⟨fun h => List.length_pos_iff.2 h, fun h => List.length_pos_iff.1 h⟩
 show Calls _ _ _ _ fun e w' => e = .returned (.bool (fitB R k)) ∧ _
 obtain ⟨b, hbz⟩ := nmd (R.sized)
 unfold fitB at hq ⊢
 rw [e0, e1, ← hbz] at hq
 rw [e0, e1, ← hbz, ← hq]
 have HQ := hid_of hq
 have hnb : (n : Int) ≤ 90000 := by omega
 have c2' : (w.alloc (.cells (⟨k, j1, j2, j3, j4, j5, j6, j7, j8, j9, j10⟩ : SL).cells 66)).cell? ⟨r, 2, none⟩ = some (.slice fa n fc) := by rw [← hfv]; exact c2
 have c3' : (w.alloc (.cells (⟨k, j1, j2, j3, j4, j5, j6, j7, j8, j9, j10⟩ : SL).cells 66)).cell? ⟨r, 3, none⟩ = some (.bool b) := by rw [hbz]; exact c3
 have x0' : (w.alloc (.cells (⟨k, j1, j2, j3, j4, j5, j6, j7, j8, j9, j10⟩ : SL).cells 66)).cell? ⟨w.heap.size, 0, none⟩ = some (.int .i64 k) := x0
 clear h hn hq e0 e1 hbz hba hbb c2 c3 x0 hka hl hfv
 simp only [SL.cells] at *
 go_enter Tryz.func43, Tryz.ntmps43
 by_cases k1 : k = 1
 ·subst k1
  have HQ1 : Hid (q = (!b && decide (n = 0))) := HQ.out
  clear HQ
  cases b
  all_goals
   go_wp2
   all_goals first
    | (rename_i hh; exact absurd hh (by decide))
    | (
      go_ret
      refine ⟨?_, HKA.out⟩
      rw [HQ1.out]
      simp [nz0])
 by_cases k2 : k = 2
 ·subst k2
  have HQ1 : Hid (q = decide (n = 0)) := HQ.out
  clear HQ
  go_wp2
  go_ret
  refine ⟨?_, HKA.out⟩
  rw [HQ1.out]
  simp [nz0]
 by_cases k4 : k = 4
 ·subst k4
  have HQ1 : Hid (q = decide (0 < n)) := HQ.out
  clear HQ
  go_wp2
  go_ret
  refine ⟨?_, HKA.out⟩
  rw [HQ1.out]
  simp [nz0]
 have HQ1 : Hid (q = true) := by
  show _ = _
  rw [HQ.out, if_neg k1, if_neg k2, if_neg k4]
 have k1' : (k == 1) = false := by simpa using k1
 have k2' : (k == 2) = false := by simpa using k2
 have k4' : (k == 4) = false := by simpa using k4
 clear HQ
 go_wp2
 go_ret
 refine ⟨?_, HKA.out⟩
 rw [HQ1.out]
 rfl
end Go.Proofs.YtgoabnehdmdikaaGreatDoor

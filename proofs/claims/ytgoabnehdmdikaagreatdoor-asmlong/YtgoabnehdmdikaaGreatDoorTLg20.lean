import Derived.Test.YtgoabnehdmdikaaGreatDoorTLg19
import Derived.Test.YtgoabnehdmdikaaGreatDoorTLg7
set_option linter.unusedVariables false
set_option linter.unusedSimpArgs false
set_option maxRecDepth 100000
set_option maxHeartbeats 64000000
namespace Go.Proofs.YtgoabnehdmdikaaGreatDoor
open Go.RowKit
theorem Zfo {x : Int} (h0 : 0 ≤ x) (h1 : x ≤ 1000000) : I64 x := ⟨by omega, by omega⟩
theorem Zcj : I64 0 := ⟨by decide, by decide⟩
theorem Zj7 {l : List UInt8} {v : Int} (h : Lib.parseIntB 64 l = .ok v) : I64 v := by
 unfold Lib.parseIntB at h
 split at h
 ·cases h
 ·simp only at h
  split at h
  ·cases h
  ·cases h
  ·split at h
   ·cases h
   ·split at h
    ·cases h
    rename_i h1 h2
    injection h with h
    have e63 : (2 : Nat) ^ (64 - 1) = 9223372036854775808 := by decide
    rw [e63] at h1 h2
    unfold I64
    split at h <;> rename_i hn
    ·rcases Nat.lt_or_ge 9223372036854775808 _ with hh | hh
     ·exact absurd ⟨hn, hh⟩ h2
     ·omega
    ·rcases Nat.lt_or_ge _ 9223372036854775808 with hh | hh
     ·omega
     ·exact absurd ⟨hn, hh⟩ h1
theorem Zm8 (l : List UInt8) : I64 (Xe l) := by
 unfold Xe
 split
 ·unfold wrap64 I64
  omega
 ·split
  ·rename_i h
   exact Zj7 h
  ·unfold Lib.intSat I64
   split <;> decide
theorem Zl3 {x y : CS} {r : Int} (h : Ye x r = some y) : ∀ p ∈ y.ps, p ∈ x.ps ∨ I64 p.n := by
 unfold Ye at h
 repeat' split at h
 all_goals first | (cases h; done) | skip
 all_goals
  injection h with h
  subst h
  intro p hp
  simp only [List.mem_append, List.mem_singleton] at hp
  first
   | exact .inl hp
   | (
     rcases hp with hp | rfl
     ·exact .inl hp
     ·exact .inr Zcj)
theorem Zol (x : CS) : ∀ p ∈ (Xf x).ps, p ∈ x.ps ∨ I64 p.n := by
 intro p hp
 unfold Xf at hp
 split at hp
 ·simp only [List.mem_append, List.mem_singleton] at hp
  rcases hp with hp | rfl
  ·exact .inl hp
  ·exact .inr Zcj
 ·split at hp
  ·simp only [List.mem_append, List.mem_singleton] at hp
   rcases hp with hp | rfl
   ·exact .inl hp
   ·exact .inr (Zm8 _)
  ·exact .inl hp
theorem Zrd {x y : CS} {r : Int} (h : Yb x r = some y) : ∀ p ∈ y.ps, p ∈ x.ps ∨ I64 p.n := by
 unfold Yb at h
 split at h
 ·split at h
  ·injection h with h
   subst h
   exact fun p hp => .inl hp
  ·split at h
   ·intro p hp
    rcases Zl3 h p hp with h1 | h1
    ·exact Zol x p h1
    ·exact .inr h1
   ·cases h
 ·split at h
  ·unfold Xd at h
   repeat' split at h
   all_goals first | (cases h; done) | skip
   all_goals
    injection h with h
    subst h
    intro p hp
    first
     | exact .inl hp
     | (
       simp only [List.mem_append, List.mem_singleton] at hp
       rcases hp with hp | rfl
       ·exact .inl hp
       ·exact .inr Zcj)
  ·split at h
   ·unfold Wj at h
    repeat' split at h
    all_goals first | (cases h; done) | skip
    all_goals
     injection h with h
     subst h
     exact fun p hp => .inl hp
   ·split at h
    ·unfold Wd at h
     repeat' split at h
     all_goals first | (cases h; done) | skip
     all_goals
      injection h with h
      subst h
      exact fun p hp => .inl hp
    ·exact Zl3 h
theorem Zl4 : ∀ (l : List UInt8) (x y : CS), Zy l x = some y → (∀ p ∈ x.ps, I64 p.n) → ∀ p ∈ y.ps, I64 p.n
 | [], x, y, h, hp => by
  rw [Zy] at h
  cases h
  exact hp
 | b :: l, x, y, h, hp => by
  rw [Zy] at h
  split at h
  ·cases h
   exact hp
  ·cases ht : Yb x (b.toNat : Int) with
   | none => rw [ht] at h; cases h
   | some z =>
    rw [ht] at h
    exact Zl4 l z y h (fun p hpz => (Zrd ht p hpz).elim (hp p) id)
theorem Zre {l : List UInt8} {ps : List Pf} (h : Yc l = some ps) : ∀ p ∈ ps, I64 p.n := by
 unfold Yc at h
 cases hc : Zy l ⟨[], 0, [], 0⟩ with
 | none => rw [hc] at h; cases h
 | some x =>
  rw [hc] at h
  simp only at h
  split at h
  ·cases h
   exact fun p hp => (Zol x p hp).elim (Zl4 l _ x hc (by simp) p) id
  ·cases h
structure Inv (R : Rdr) (n : Nat) : Prop where
 fs : R.fs.length ≤ n
 code : ∀ f ∈ R.fs, f.code.length ≤ n
 ws : R.ws.length ≤ n
 data : R.data.length ≤ n * 65536
 wok : WOk R.ws R.fs
 nums : R.Nums
theorem Inv.ok {R : Rdr} {n : Nat} (h : Inv R n) (hn : n ≤ 65537) : R.Ok := by
 have h1 := h.fs
 have h2 := h.ws
 have h3 := h.data
 refine ⟨by omega, fun f hf => by have := h.code f hf; omega, by omega, by omega, fun x hx => ?_⟩
 obtain ⟨f, hf, _⟩ := h.wok x hx
 exact (List.getElem?_eq_some_iff.1 hf).1
theorem Inv.mono {R : Rdr} {n m : Nat} (h : Inv R n) (hm : n ≤ m) : Inv R m := by
 have h3 := h.data
 exact ⟨Nat.le_trans h.fs hm, fun f hf => Nat.le_trans (h.code f hf) hm, Nat.le_trans h.ws hm, Nat.le_trans h3 (Nat.mul_le_mul_right _ hm), h.wok, h.nums⟩
theorem Inv.first : Inv ⟨0, false, [], [], []⟩ 0 := ⟨Nat.le_refl _, fun f hf => absurd hf List.not_mem_nil, Nat.le_refl _, Nat.zero_le _, fun x hx => absurd hx List.not_mem_nil, ⟨Zcj, fun x hx => absurd hx List.not_mem_nil, fun f hf => absurd hf List.not_mem_nil⟩⟩
variable {R R' : Rdr} {n : Nat}
theorem Zvz {l : List Pf} (h : ∀ p ∈ l, I64 p.n) : I64 ((l.map Pf.n).headD 0) := by
 cases l with
 | nil => exact Zcj
 | cons p l => exact h p List.mem_cons_self
theorem Zt8 {l : List Pf} (h : Inv R n) (hl : ∀ p ∈ l, I64 p.n) (e : Zch R l = .good R') : Inv R' n := by
 unfold Zch at e
 split at e
 ·cases e
 ·split at e
  ·cases e
  ·cases e
   exact ⟨h.fs, h.code, h.ws, h.data, h.wok, ⟨Zvz hl, h.nums.data, h.nums.fns⟩⟩
theorem Zt9 {l : List Pf} (h : Inv R n) (hl : ∀ p ∈ l, p.s.size ≤ 65536) (e : Zdd R l = .good R') : Inv R' (n + 1) := by
 unfold Zdd at e
 split at e
 ·cases e
 ·cases e
  have hs : ((l.map Pf.s).headD ⟨#[]⟩).size ≤ 65536 := by
   cases l with
   | nil => show (0 : Nat) ≤ _; omega
   | cons p l => exact hl p List.mem_cons_self
  have hb : (Xy ((l.map Pf.s).headD ⟨#[]⟩)).length ≤ 65536 := by
   unfold Xy
   rw [List.length_map, ← Lib.size_eq]
   exact hs
  have h3 := h.data
  have hm := h.mono (Nat.le_succ n)
  refine ⟨hm.fs, hm.code, hm.ws, ?_, h.wok, ⟨h.nums.mem, fun x hx => ?_, h.nums.fns⟩⟩
  ·show (R.data ++ _).length ≤ _
   rw [List.length_append]
   omega
  ·rcases List.mem_append.1 (show x ∈ R.data ++ Xy _ from hx) with hx | hx
   ·exact h.nums.data x hx
   ·unfold Xy at hx
    obtain ⟨b, _, rfl⟩ := List.mem_map.1 hx
    have := b.toNat_lt
    omega
theorem Zrf {ws : List Wt} {fs : List Fnc} (h : WOk ws fs) (f : Fnc) : WOk ws (fs ++ [f]) := fun x hx => by
 obtain ⟨g, h1, h2⟩ := h x hx
 exact ⟨g, by rw [List.getElem?_append_left (List.getElem?_eq_some_iff.1 h1).1]; exact h1, h2⟩
theorem Zua {l : List Pf} (h : Inv R n) (hl : ∀ p ∈ l, I64 p.n) (e : Zco R l = .good R') : Inv R' (n + 1) := by
 unfold Zco at e
 split at e
 ·rename_i p q1 q2 q3
  split at e
  ·cases e
  ·split at e
   ·cases e
   ·split at e
    ·cases e
    ·cases e
     have hm := h.mono (Nat.le_succ n)
     have h1 := h.fs
     refine ⟨?_, fun f hf => ?_, hm.ws, hm.data, Zrf h.wok _, ⟨h.nums.mem, h.nums.data, fun f hf => ?_⟩⟩
     ·show (R.fs ++ [_]).length ≤ _
      rw [List.length_append]
      simp only [List.length_cons, List.length_nil]
      omega
     ·rcases List.mem_append.1 hf with hf | hf
      ·exact hm.code f hf
      ·rw [List.mem_singleton.1 hf]
       exact Nat.zero_le _
     ·rcases List.mem_append.1 hf with hf | hf
      ·exact h.nums.fns f hf
      ·rw [List.mem_singleton.1 hf]
       exact ⟨hl q1 (by simp), hl q2 (by simp), hl q3 (by simp), by simp, by simp⟩
 ·cases e
theorem Zl5 : ∀ (ls : List ByteArray) (f g : Fnc), Xu f ls = some g → f.Ok → f.code.length ≤ 100000 → g.Ok
 | [], f, g, h, ho, _ => by cases h; exact ho
 | s :: ss, f, g, h, ho, hc => by
  rw [Xu] at h
  by_cases hs : (lkA f.ls s).isSome = true
  ·rw [if_pos hs] at h
   cases h
  ·rw [if_neg hs] at h
   refine Zl5 ss ⟨f.nm, f.a, f.l, f.r, f.ls ++ [(s, (f.code.length : Int))], f.code⟩ g h ⟨ho.a, ho.l, ho.r, ho.code, fun x hx => ?_⟩ hc
   rcases List.mem_append.1 hx with hx | hx
   ·exact ho.ls x hx
   ·rw [List.mem_singleton.1 hx]
    exact Zfo (by show (0 : Int) ≤ (f.code.length : Int); omega) (by show (f.code.length : Int) ≤ _; omega)
theorem Zub {k : Nat} {kd : Int} {l : List Pf} {op a : Int} {s : ByteArray} (hk : k < 46) (hl : ∀ p ∈ l, I64 p.n) (h : Zbh k kd l = some (op, a, s)) : op = (k : Int) ∧ I64 a := by
 cases l with
 | nil =>
  rw [Zbh] at h
  split at h
  ·cases h
   exact ⟨rfl, Zcj⟩
  ·cases h
 | cons q r =>
  rw [Zbh] at h
  repeat' split at h
  all_goals first | (cases h; done) | skip
  all_goals
   injection h with h
   injection h with h1 h
   injection h with h2 h3
   refine ⟨h1.symm, ?_⟩
   rw [← h2]
  ·exact hl q List.mem_cons_self
  ·exact Zcj
  ·rename_i c hc
   have := Zeh hc
   have h5 : Zk.length = 5 := rfl
   exact Zfo (by omega) (by omega)
theorem Zrg {l : List Pf} {op a : Int} {s : ByteArray} (hl : ∀ p ∈ l, I64 p.n) (h : Zar l = some (op, a, s)) : 0 ≤ op ∧ op < 46 ∧ I64 a := by
 cases l with
 | nil => cases h
 | cons p r =>
  rw [Zar] at h
  split at h
  ·split at h
   ·rename_i k hk
    have hk46 : k < 46 := Zeh hk
    obtain ⟨h1, h2⟩ := Zub hk46 (fun q hq => hl q (List.mem_cons_of_mem _ hq)) h
    exact ⟨by omega, by omega, h2⟩
   ·cases h
  ·cases h
theorem Zj8 {ws : List Wt} {gs : List Fnc} {f g : Fnc} (h : WOk ws (gs ++ [f])) (hc : f.code.length ≤ g.code.length) : WOk ws (gs ++ [g]) := fun x hx => by
 obtain ⟨k, h1, h2⟩ := h x hx
 by_cases hi : x.fn < gs.length
 ·exact ⟨k, by rw [List.getElem?_append_left hi] at h1 ⊢; exact h1, h2⟩
 ·have h0 : x.fn = gs.length := by
   have := (List.getElem?_eq_some_iff.1 h1).1
   rw [List.length_append] at this
   simp at this
   omega
  rw [h0, Zl] at h1
  cases h1
  exact ⟨g, by rw [h0, Zl], by omega⟩
theorem Zrh {gs : List Fnc} {f : Fnc} {ln : Int} {ls : List ByteArray} {l : List Pf} (h : Inv R n) (hn : n ≤ 65537) (hf : R.fs = gs ++ [f]) (hl : ∀ p ∈ l, I64 p.n) (e : Zc3 R gs f ln ls l = .good R') : Inv R' (n + 1) := by
 have hm := h.mono (Nat.le_succ n)
 have hfm : f ∈ R.fs := by rw [hf]; simp
 have hfo := h.nums.fns f hfm
 have hfc := h.code f hfm
 have hfl : gs.length + 1 = R.fs.length := by rw [hf]; simp
 have h1 := h.fs
 unfold Zc3 at e
 split at e
 ·cases e
 ·split at e
  ·cases e
  ·split at e
   ·cases e
   ·rename_i g hg
    have hgc := Zfk _ _ _ hg
    have hgo := Zl5 _ _ _ hg hfo (by omega)
    have hgl := congrArg List.length hgc
    split at e
    ·cases e
     refine ⟨?_, fun k hk => ?_, hm.ws, hm.data, ?_, ⟨h.nums.mem, h.nums.data, fun k hk => ?_⟩⟩
     ·show (gs ++ [g]).length ≤ _
      rw [List.length_append]
      simp only [List.length_cons, List.length_nil]
      omega
     ·rcases List.mem_append.1 (show k ∈ gs ++ [g] from hk) with hk | hk
      ·exact hm.code k (by rw [hf]; exact List.mem_append_left _ hk)
      ·rw [List.mem_singleton.1 hk]; omega
     ·have := h.wok
      rw [hf] at this
      exact Zj8 this (by omega)
     ·rcases List.mem_append.1 (show k ∈ gs ++ [g] from hk) with hk | hk
      ·exact h.nums.fns k (by rw [hf]; exact List.mem_append_left _ hk)
      ·rw [List.mem_singleton.1 hk]; exact hgo
    ·split at e
     ·cases e
     ·rename_i op a w hi
      cases e
      obtain ⟨i1, i2, i3⟩ := Zrg hl hi
      have hal : (Xh g op a).code.length = g.code.length + 1 := by simp [Xh]
      refine ⟨?_, fun k hk => ?_, ?_, hm.data, ?_, ⟨h.nums.mem, h.nums.data, fun k hk => ?_⟩⟩
      ·show (gs ++ [Xh g op a]).length ≤ _
       rw [List.length_append]
       simp only [List.length_cons, List.length_nil]
       omega
      ·rcases List.mem_append.1 (show k ∈ gs ++ [Xh g op a] from hk) with hk | hk
       ·exact hm.code k (by rw [hf]; exact List.mem_append_left _ hk)
       ·rw [List.mem_singleton.1 hk, hal]; omega
      ·show (R.ws ++ Zbt _ _ _ _ _).length ≤ _
       have h2 := h.ws
       rw [List.length_append]
       unfold Zbt
       split <;> simp only [List.length_cons, List.length_nil] <;> omega
      ·have h4 := h.wok
       rw [hf] at h4
       have h5 : WOk R.ws (gs ++ [Xh g op a]) := Zj8 h4 (by omega)
       intro x hx
       rcases List.mem_append.1 (show x ∈ R.ws ++ Zbt _ _ _ _ _ from hx) with hx | hx
       ·exact h5 x hx
       ·unfold Zbt at hx
        split at hx
        ·simp at hx
        ·rw [List.mem_singleton.1 hx]
         exact ⟨Xh g op a, Zl _ _, by show g.code.length < _; omega⟩
      ·rcases List.mem_append.1 (show k ∈ gs ++ [Xh g op a] from hk) with hk | hk
       ·exact h.nums.fns k (by rw [hf]; exact List.mem_append_left _ hk)
       ·rw [List.mem_singleton.1 hk]
        refine ⟨hgo.a, hgo.l, hgo.r, fun y hy => ?_, hgo.ls⟩
        rcases List.mem_append.1 (show y ∈ g.code ++ [⟨op, a⟩] from hy) with hy | hy
        ·exact hgo.code y hy
        ·rw [List.mem_singleton.1 hy]
         exact ⟨⟨by show _ ≤ op; omega, by show op < _; omega⟩, i3.1, i3.2⟩
theorem Zif {ln : Int} {ls : List ByteArray} {l : List Pf} (h : Inv R n) (hn : n ≤ 65537) (hl : ∀ p ∈ l, I64 p.n) (e : Za1 R ln ls l = .good R') : Inv R' (n + 1) := by
 by_cases hf : R.fs = []
 ·rw [Zh8 R ln ls l hf] at e
  cases e
 ·obtain ⟨m, hm⟩ : ∃ m, R.fs.length = m + 1 := ⟨R.fs.length - 1, by have := List.length_pos_iff.2 hf; omega⟩
  obtain ⟨gs, f, hfs, hgl⟩ := Zcv hm
  rw [Zgv R ln ls l gs f hfs] at e
  exact Zrh h hn hfs hl e
theorem Zj9 {ln : Int} {b : List UInt8} (h : Inv R n) (hn : n ≤ 65537) (hb : b.length ≤ 65536) (e : Zb3 R ln (Yc b) = .good R') : Inv R' (n + 1) := by
 cases hc : Yc b with
 | none => rw [hc] at e; cases e
 | some ps =>
  rw [hc] at e
  obtain ⟨c1, c2⟩ := Zdg hc
  have c3 := Zre hc
  have hlab := (Zev ps).2
  have d2 : ∀ p ∈ (Yl ps).2, p.s.size ≤ 65536 := fun p hp => Nat.le_trans (c2 p (hlab p hp)) hb
  have d3 : ∀ p ∈ (Yl ps).2, I64 p.n := fun p hp => c3 p (hlab p hp)
  have e' : (if (Yl ps).1 = [] then Zes R ln (Yl ps).2 else Za1 R ln (Yl ps).1 (Yl ps).2) = .good R' := e
  split at e'
  ·cases hq : (Yl ps).2 with
   | nil =>
    rw [hq] at e'
    cases e'
    exact h.mono (Nat.le_succ n)
   | cons p l =>
    rw [hq] at e' d2 d3
    rw [Zes] at e'
    have d2' := fun q hq => d2 q (List.mem_cons_of_mem _ hq)
    have d3' := fun q hq => d3 q (List.mem_cons_of_mem _ hq)
    split at e'
    ·cases e'
    ·split at e'
     ·exact (Zt8 h d3' e').mono (Nat.le_succ n)
     ·split at e'
      ·exact Zt9 h d2' e'
      ·split at e'
       ·exact Zua h d3' e'
       ·exact Zif h hn d3 e'
  ·exact Zif h hn d3 e'
theorem Zht : ∀ (L : List (ByteArray × Int)) (s : ByteArray) (v : Int), lkA L s = some v → ∃ x ∈ L, x.2 = v
 | [], s, v, h => by cases h
 | (k, a) :: L, s, v, h => by
  rw [lkA] at h
  split at h
  ·cases h
   exact ⟨_, List.mem_cons_self, rfl⟩
  ·obtain ⟨x, hx, e⟩ := Zht L s v h
   exact ⟨x, List.mem_cons_of_mem _ hx, e⟩
theorem Zl6 : ∀ (k : Nat) (fs : List Fnc), ∀ x ∈ nmL k fs, 0 ≤ x.2 ∧ x.2 ≤ ((k + fs.length : Nat) : Int)
 | k, [], x, h => by simp [nmL] at h
 | k, f :: fs, x, h => by
  rw [nmL] at h
  simp only [List.length_cons]
  rcases List.mem_cons.1 h with rfl | h
  ·simp only
   omega
  ·have := Zl6 (k + 1) fs x h
   omega
theorem Zhu {fs : List Fnc} {x : Wt} {v : Int} (hf : ∀ f ∈ fs, f.Ok) (hl : fs.length ≤ 90000) (h : wtL fs x = some v) : I64 v := by
 unfold wtL at h
 split at h
 ·split at h
  ·rename_i f hg
   obtain ⟨y, hy, rfl⟩ := Zht _ _ _ h
   exact (hf f (List.mem_of_getElem? hg)).ls y hy
  ·cases h
 ·obtain ⟨y, hy, rfl⟩ := Zht _ _ _ h
  have := Zl6 0 fs y hy
  exact Zfo (by omega) (by omega)
theorem Zl7 {fs : List Fnc} (hf : ∀ f ∈ fs, f.Ok) (k p : Nat) {v : Int} (hv : I64 v) : ∀ f ∈ Yq fs k p v, f.Ok := by
 intro f hm
 unfold Yq at hm
 split at hm
 ·rename_i g hg
  rcases List.mem_or_eq_of_mem_set hm with h | h
  ·exact hf f h
  ·have ho := hf g (List.mem_of_getElem? hg)
   rw [h]
   refine ⟨ho.a, ho.l, ho.r, fun y hy => ?_, ho.ls⟩
   by_cases hp : p < g.code.length
   ·rcases List.mem_or_eq_of_mem_set (show y ∈ g.code.set p _ from hy) with h1 | h1
    ·exact ho.code y h1
    ·rw [h1]
     have hm := ho.code (g.code.getD p ⟨0, 0⟩) (by rw [List.getD_eq_getElem?_getD, List.getElem?_eq_getElem hp]; exact List.getElem_mem hp)
     exact ⟨hm.1, hv.1, hv.2⟩
   ·rw [show (Zbw g p v).code = g.code by unfold Zbw; exact List.set_eq_of_length_le (by omega)] at hy
    exact ho.code y hy
 ·exact hf f hm
theorem Zom (fs : List Fnc) (k p : Nat) (v : Int) : (Yq fs k p v).map (fun f => f.code.length) = fs.map (fun f => f.code.length) := by
 unfold Yq
 split
 ·rename_i g hg
  exact Zam (fun f : Fnc => f.code.length) fs k g (Zbw g p v) hg (by simp [Zbw])
 ·rfl
theorem Zig : ∀ (ws : List Wt) (fs fs' : List Fnc), Xg ws fs = .inr fs' → (∀ f ∈ fs, f.Ok) → fs.length ≤ 90000 → (∀ f ∈ fs', f.Ok) ∧ fs'.length = fs.length ∧ fs'.map (fun f => f.code.length) = fs.map (fun f => f.code.length)
 | [], fs, fs', h, hf, _ => by
  cases h
  exact ⟨hf, rfl, rfl⟩
 | x :: ws, fs, fs', h, hf, hl => by
  rw [Xg] at h
  split at h
  ·cases h
  ·rename_i v hv
   obtain ⟨h1, h2, h3⟩ := Zig ws _ fs' h (Zl7 hf _ _ (Zhu hf hl hv)) (by rw [Zbx]; exact hl)
   exact ⟨h1, by rw [h2, Zbx], by rw [h3, Zom]⟩
end Go.Proofs.YtgoabnehdmdikaaGreatDoor
namespace Go.Proofs.YtgoabnehdmdikaaGreatDoor
open Go.RowKit
variable {w0 w : World} {r gm : Nat} {R : Rdr} {NL : List (ByteArray × Int)} {dv fv lv wv : Value} {CV : List Value} {GM : List Nat}
abbrev R0 : Rdr := ⟨0, false, [], [], []⟩
def Zb4 (b : List UInt8) : (Int × Int) ⊕ Rdr :=
 if 65536 < b.length then .inl (0, 2) else match Xp R0 1 (Zv b) with
  | .inl e => .inl e
  | .inr R => match Xg R.ws R.fs with
   | .inl ln => .inl (ln, 142)
   | .inr fs' => if Ya (pgG ⟨R.mem, R.sized, R.data, fs', R.ws⟩) = 0 then .inr ⟨R.mem, R.sized, R.data, fs', R.ws⟩ else .inl (0, Ya (pgG ⟨R.mem, R.sized, R.data, fs', R.ws⟩))
theorem Zon {R : Rdr} {gs : List Fnc} {f : Fnc} {ln : Int} {ls : List ByteArray} {l : List Pf} {e : Int} (h : Zc3 R gs f ln ls l = .bad e) : 141 ≤ e ∧ e ≤ 143 := by
 unfold Zc3 at h
 repeat' split at h
 all_goals first | (cases h; done) | skip
 all_goals
  injection h with h
  omega
theorem Zih {R : Rdr} {ln : Int} {ls : List ByteArray} {l : List Pf} {e : Int} (h : Za1 R ln ls l = .bad e) : 141 ≤ e ∧ e ≤ 143 := by
 unfold Za1 at h
 split at h
 ·injection h with h
  omega
 ·exact Zon h
theorem Zoo {R : Rdr} {ln : Int} {o : Option (List Pf)} {e : Int} (h : Zb3 R ln o = .bad e) : 141 ≤ e ∧ e ≤ 143 := by
 unfold Zb3 at h
 split at h
 ·injection h with h
  omega
 ·split at h
  ·unfold Zes at h
   split at h
   ·cases h
   ·split at h
    ·injection h with h
     omega
    ·split at h
     ·unfold Zch at h
      repeat' split at h
      all_goals first | (cases h; done) | skip
      all_goals
       injection h with h
       omega
     ·split at h
      ·unfold Zdd at h
       repeat' split at h
       all_goals first | (cases h; done) | skip
       all_goals
        injection h with h
        omega
      ·split at h
       ·unfold Zco at h
        repeat' split at h
        all_goals first | (cases h; done) | skip
        all_goals
         injection h with h
         omega
       ·exact Zih h
  ·exact Zih h
theorem Fam.mono {w : World} {B B' e s : Nat} {vs : List Value} {xss : List (Nat × List Value)} (h : Fam w B e s vs xss) (hB : B' ≤ B) : Fam w B' e s vs xss := ⟨h.len, fun i v x hv hx => Zba (h.row i v x hv hx) hB, h.apart⟩
theorem RdX.mono {w00 : World} (h : RdX w0 w r R dv fv lv wv gm CV GM) (hk : Kept nF w00 w0) : RdX w00 w r R dv fv lv wv gm CV GM :=
 ⟨⟨h.box, Zba h.data hk.size, Zba h.fns hk.size, h.code.mono hk.size, Zba h.mps hk.size, h.maps, h.names, h.nodup, fun g hg => Nat.le_trans hk.size (h.newer g hg), Zba h.wts hk.size, hk.trans h.kept, Nat.le_trans hk.size h.lo⟩, h.glen⟩
theorem RdX.ch {S : Nat → Prop} {t : TypeId} {w' : World} (h : RdX w0 w r R dv fv lv wv gm CV GM) (hk : Kept S w w') (hc : Ch w S t) (hne : t ≠ 5 ∧ t ≠ 78 ∧ t ≠ 75 ∧ t ≠ 95 ∧ t ≠ 135) (hb : t ≠ 99) (hS : ∀ q, S q → w0.heap.size ≤ q) : RdX w0 w' r R dv fv lv wv gm CV GM :=
 ⟨(h.rest.ch hk hc hne).with (Zah hk hc h.box hb) (h.kept.step hk (fun q hq e => by have := hS q e; omega)) h.lo, h.glen⟩
def Zw5 (o : (Int × Int) ⊕ Rdr) (w : World) (e : Ending) (w' : World) : Prop :=
 ∃ (m : Int) (a a' : Option Addr) (k c k' c' : Nat) (ln er : Int), e = .returned (.tuple #[.agg #[.int .i64 m, .slice a k c, .slice a' k' c'], .int .i64 ln, .int .i64 er]) ∧ Kept nF w w' ∧
  ((o = .inl (ln, er) ∧ er ≠ 0) ∨ (∃ R', o = .inr R' ∧ er = 0 ∧ ∃ r fv lv wv gm CV GM, fv = .slice a' k' c' ∧ m = R'.mem ∧ R'.Nums ∧ R'.Ok ∧ Ya (pgG R') = 0 ∧ RdX w w' r R' (.slice a k c) fv lv wv gm CV GM))
theorem Zw6 (D : ByteArray) (hD : D.size ≤ 9223372036854775807) (w : World) (hG : Gs w) : Calls Tryz.prog 19 #[.string D] w (Zw5 (Zb4 D.data.toList) w) := by
 obtain ⟨O, hO⟩ := nmd (Zb4 D.data.toList)
 rw [← hO]
 have HOO := Za hO
 clear hO
 have hDI : (D.size : Int) ≤ 9223372036854775807 := by omega
 obtain ⟨W1, hW1⟩ := nmd (w.alloc (.cells #[.int .i64 0, .slice none 0 0, .slice none 0 0] 26))
 have k1 : Kept nF w W1 := by rw [hW1]; exact (Kept.refl _ _).alloc _
 have x1 : W1.heap[w.heap.size]? = some (.cells #[.int .i64 0, .slice none 0 0, .slice none 0 0] 26 (0, 0)) := by rw [hW1]; exact heap_alloc_new _ _
 have hs1 : W1.heap.size = w.heap.size + 1 := by rw [hW1]; simp
 have HG1 := Za (hG.same k1)
 have HK1 := Za k1
 have HX1 := Za x1
 have hmm := @run_makeMap Tryz.prog
 clear hG k1 x1
 by_cases hbig : 65536 < D.size
 ·have hbI : (65536 : Int) < (D.size : Int) := by omega
  have HE : Hid (O = .inl (0, 2)) := by
   show O = _
   rw [HOO.out]
   unfold Zb4
   rw [if_pos (by rw [← Lib.size_eq]; exact hbig)]
  go_enter Tryz.func19, Tryz.ntmps19
  go_upto_region 1 with fail
  rw [← hW1]
  obtain ⟨p0, hp0⟩ := nmd (w.heap.size)
  rw [← hp0] at HX1 ⊢
  have HPW : Hid (w.heap.size ≤ p0) := by rw [hp0]; exact Nat.le_refl _
  clear hW1 hs1 hp0 hbig
  obtain ⟨c0, c1, c2, f0, f1, f2⟩ := Zx HX1.out
  obtain ⟨hx, hkx⟩ := Zct W1 p0 26 _ _ _ (.int .i64 0) (.slice none 0 0) (.slice none 0 0) HX1.out
  have HX2 := Za hx
  have HK2 := Za (HK1.out.step hkx (fun q hq e => by have := HPW.out; omega))
  clear hx hkx
  go_wp2
  refine bodyPost_ret (v := .tuple #[.agg #[.int .i64 0, .slice none 0 0, .slice none 0 0], .int .i64 0, .int .i64 2]) ?_ rfl ⟨0, none, none, 0, 0, 0, 0, 0, 2, rfl, HK2.out, .inl ⟨HE.out, by decide⟩⟩
  exact Zt (by rfl) _ _ p0 26 _ (0, 0) _ _ _ (by rfl) (by rfl) (by rfl) HX2.out Tryz.underlying26 rfl Zak
 have hbI : ¬ (65536 : Int) < (D.size : Int) := by omega
 have HSZ : Hid (D.data.toList.length ≤ 65536) := by show _ ≤ 65536; rw [← Lib.size_eq]; omega
 have HOL : Hid (O = match Xp R0 1 (Zv D.data.toList) with
  | .inl e => .inl e
  | .inr R => match Xg R.ws R.fs with
   | .inl ln => .inl (ln, 142)
   | .inr fs' => if Ya (pgG ⟨R.mem, R.sized, R.data, fs', R.ws⟩) = 0 then .inr ⟨R.mem, R.sized, R.data, fs', R.ws⟩ else .inl (0, Ya (pgG ⟨R.mem, R.sized, R.data, fs', R.ws⟩))) := by
  show O = _
  rw [HOO.out]
  unfold Zb4
  rw [if_neg (by rw [← Lib.size_eq]; exact hbig)]
 obtain ⟨LS, hLS⟩ := nmd (Zv D.data.toList)
 rw [← hLS] at HOL
 have HLS : Hid (LS.length ≤ 65537 ∧ ∀ l ∈ LS, l.length ≤ 65536) := by
  have h1 := Zez D.data.toList
  rw [← hLS] at h1
  have := HSZ.out
  exact ⟨by omega, fun l hl => by have := h1.2 l hl; omega⟩
 have HSP1 := Za (Zie D)
 have HCN := Za (Zoh D)
 rw [← hLS] at HSP1 HCN
 clear hLS HOO
 go_enter Tryz.func19, Tryz.ntmps19
 go_upto_region 1 with fail
 rw [← hW1]
 obtain ⟨p0, hp0⟩ := nmd (w.heap.size)
 rw [← hp0] at HX1 ⊢
 have HPW : Hid (w.heap.size ≤ p0) := by rw [hp0]; exact Nat.le_refl _
 have HP1 : Hid (p0 < W1.heap.size) := by unfold Hid; rw [hs1, hp0]; omega
 clear hW1 hs1 hp0 hbig
 have hkm : Kept nF W1 (W1.alloc (.map #[] 0)) := (Kept.refl _ _).alloc _
 have hmp := heap_alloc_new W1 (.map #[] 0)
 have hszm : (W1.alloc (.map #[] 0)).heap.size = W1.heap.size + 1 := by simp
 obtain ⟨W3, hW3⟩ := nmd ((W1.alloc (.map #[] 0)).alloc (.cells #[.int .i64 0, .slice none 0 0, .slice none 0 0, .bool false, .map (some W1.heap.size), .slice none 0 0, .slice none 0 0] 99))
 have hkr : Kept nF (W1.alloc (.map #[] 0)) W3 := by rw [hW3]; exact (Kept.refl _ _).alloc _
 have hrd : W3.heap[W1.heap.size + 1]? = some (.cells #[.int .i64 0, .slice none 0 0, .slice none 0 0, .bool false, .map (some W1.heap.size), .slice none 0 0, .slice none 0 0] 99 (0, 0)) := by
  have := heap_alloc_new (W1.alloc (.map #[] 0)) (.cells #[.int .i64 0, .slice none 0 0, .slice none 0 0, .bool false, .map (some W1.heap.size), .slice none 0 0, .slice none 0 0] 99)
  rw [hszm, ← hW3] at this
  exact this
 have HRA : Hid (RdG W1 W3 (W1.heap.size + 1) R0) := ⟨.slice none 0 0, .slice none 0 0, .slice none 0 0, .slice none 0 0, W1.heap.size, [], [],
  ⟨⟨hrd, World.ownsRow_nil _ _ _ _, World.ownsRow_nil _ _ _ _, Fam.nil, World.ownsRow_nil _ _ _ _, fun i g f h => by simp at h, Zlv (Zc hkr hmp id), by simp, fun g hg => by rw [List.mem_singleton.1 hg]; exact Nat.le_refl _, World.ownsRow_nil _ _ _ _, hkm.trans hkr, Nat.le_succ _⟩, rfl⟩⟩
 have HK3 := Za (hkm.trans hkr)
 clear hkm hmp hszm hkr hrd
 go_upto_region 4 with fail
 rw [← hW3]
 generalize W1.heap.size + 1 = r at *
 clear hW3 hmm
 have HG3 := Za (HG1.out.same HK3.out)
 obtain ⟨m, q1⟩ := HG3.out.gl.len
 have HSP := Za (Tryz.strings_Split D nlB m W3 (by omega) q1 (by decide))
 rw [HSP1.out, HCN.out] at HSP
 clear q1 HSP1 HCN
 go_wp2_with fail
 refine HSP.out.mono ?_
 rintro e W4 ⟨rfl, hw4⟩
 have k4 : Kept nF W3 W4 := by rw [hw4]; exact (Kept.refl _ _).alloc _
 have x4 : W4.heap[W3.heap.size]? = some (.cells ((LS.map toB).map Value.string).toArray 9 (0, 0)) := by rw [hw4]; exact heap_alloc_new _ _
 have HRA4 := Za (HRA.out.same k4)
 have HT4 := Za x4
 clear hw4 k4 x4 HSP HRA HG3 HK3
 generalize W3.heap.size = gt at *
 obtain ⟨n, hn⟩ := nmd (LS.length)
 rw [← hn]
 have HN := Za hn
 have hnI : (n : Int) ≤ 65537 := by have := HLS.out.1; omega
 clear hn
 go_wp2_with fail
 go_loopw [22] (fun iv wr => ∃ (i : Nat) (R : Rdr), iv = .int .i64 (i : Int) ∧ i ≤ n ∧ Hid (RdG W1 wr r R) ∧ Hid (Inv R i) ∧ Hid (OthG W4 wr) ∧ Hid (Xp R0 1 LS = Xp R ((i : Int) + 1) (LS.drop i))) (fun iv _ => n - (intOf iv).toNat)
 case atStart => exact ⟨0, R0, rfl, Nat.zero_le _, HRA4, Inv.first, OthG.refl _, rfl⟩
 case round =>
  clear HRA4
  obtain ⟨i, R, rfl, hin, HRG, HIV, HOT, HLP⟩ := hrel
  by_cases hlt : i < n
  ·have hil : i < LS.length := by have := HN.out; omega
   have hltI : (i : Int) < (n : Int) := by omega
   obtain ⟨l, hl⟩ := nmd (LS[i]'hil)
   have hT := HOT.out gt _ 9 HT4.out (.inl rfl)
   have t0 : wr.cell? ⟨gt, i, none⟩ = some (.string (toB l)) := by
    rw [Zb _ _ i _ _ _ hT, hl]
    simp [hil]
   have hlm : l ∈ LS := by rw [hl]; exact List.getElem_mem hil
   have hls := HLS.out.2 l hlm
   have HL := Za (Zw3 (w := wr) ((i : Int) + 1) (toB l) (by rw [Lib.size_eq, Zj2]; exact hls) (HG1.out.same HRG.out.kept) HRG.out (HIV.out.ok (by omega)))
   rw [Zj2] at HL
   have HD : Hid (Xp R0 1 LS = match Zb3 R ((i : Int) + 1) (Yc l) with | .bad e => .inl ((i : Int) + 1, e) | .good R' => Xp R' ((i : Int) + 1 + 1) (LS.drop (i + 1))) := by
    show _ = _
    rw [HLP.out, List.drop_eq_getElem_cons hil, ← hl]
    rfl
   have HIL : Hid (∀ R', Zb3 R ((i : Int) + 1) (Yc l) = .good R' → Inv R' (i + 1)) := fun R' e => Zj9 HIV.out (by omega) hls e
   clear hl hT hlm hls hil HLP HIV
   go_wp2_with fail
   refine HL.out.mono ?_
   rintro e w5 ⟨hk5, ⟨R', hR', rfl, hg5, ho5⟩ | ⟨er, hbad, rfl⟩⟩
   ·have HG5 := Za hg5
    have HI5 := Za (HIL.out R' hR')
    have HO5 := Za (HOT.out.trans ho5)
    have HD5 : Hid (Xp R0 1 LS = Xp R' ((i : Int) + 1 + 1) (LS.drop (i + 1))) := by
     have := HD.out
     rw [hR'] at this
     exact this
    clear hk5 hR' hg5 ho5 HL HD HIL t0
    go_wp2
    go_roundw
    case rel => exact ⟨i + 1, R', by go_num, by omega, HG5, HI5, HO5, by have := HD5.out; show Xp R0 1 LS = Xp R' (((i + 1 : Nat) : Int) + 1) _; rw [this]; congr 1⟩
    case measure => simp [intOf]; omega
   ·have hb := Zoo hbad
    have HE : Hid (O = .inl ((i : Int) + 1, er)) := by
     show O = _
     rw [HOL.out, HD.out, hbad]
    have HB : Hid (er ≠ 0) := by show er ≠ 0; omega
    have e0 : (er != 0) = true := by simp; omega
    have HK5 := Za hk5
    obtain ⟨hx, hkx⟩ := Zct w5 p0 26 _ _ _ (.int .i64 0) (.slice none 0 0) (.slice none 0 0) (Zc hk5 HX1.out id)
    obtain ⟨c0, c1, c2, f0, f1, f2⟩ := Zx (Zc hk5 HX1.out id)
    have HX6 := Za hx
    have HK6 := Za ((HK1.out.trans hk5).step hkx (fun q hq e => by have := HPW.out; omega))
    clear hk5 hbad hb hx hkx HL HD HIL t0
    go_wp2
    refine bodyPost_ret (v := .tuple #[.agg #[.int .i64 0, .slice none 0 0, .slice none 0 0], .int .i64 ((i : Int) + 1), .int .i64 er]) ?_ rfl ⟨0, none, none, 0, 0, 0, 0, _, er, rfl, HK6.out, .inl ⟨HE.out, HB.out⟩⟩
    exact Zt (by rfl) _ _ p0 26 _ (0, 0) _ _ _ (by rfl) (by rfl) (by rfl) HX6.out Tryz.underlying26 rfl Zak
  ·have hlt' : ¬ (i : Int) < (n : Int) := by omega
   have HLE : Hid (Xp R0 1 LS = .inr R) := by
    show _ = _
    have := HLP.out
    rw [List.drop_of_length_le (by have := HN.out; omega)] at this
    exact this
   have hok := HIV.out.ok (by omega)
   have HIO := Za hok
   have HST := Za (Zt3 (w := wr) HRG.out HIV.out.wok hok.ws (by have := hok.fs; omega) hok.code)
   clear HLP hok
   go_wp2_with fail
   refine HST.out.mono ?_
   rintro e w5 ⟨hk5, ⟨fs', hfs, rfl, hg5⟩ | ⟨ln, hln, rfl⟩⟩
   ·obtain ⟨dv, fv, lv, wv, gm, CV, GM, hX⟩ := hg5
    obtain ⟨so, sl, sc⟩ := Zig _ _ _ hfs HIV.out.nums.fns (by have := HIO.out.fs; omega)
    obtain ⟨R', hR'⟩ := nmd ((⟨R.mem, R.sized, R.data, fs', R.ws⟩ : Rdr))
    rw [← hR'] at hX
    have hnum : R'.Nums := by rw [hR']; exact ⟨HIV.out.nums.mem, HIV.out.nums.data, so⟩
    have hok' : R'.Ok := by
     rw [hR']
     refine ⟨by show fs'.length ≤ _; rw [sl]; exact HIO.out.fs, fun f hf => ?_, HIO.out.ws, HIO.out.data, fun x hx => by show x.fn < fs'.length; rw [sl]; exact HIO.out.wf x hx⟩
     have hm : f.code.length ∈ fs'.map (fun f => f.code.length) := List.mem_map.2 ⟨f, hf, rfl⟩
     rw [sc] at hm
     obtain ⟨f0, h0, e0⟩ := List.mem_map.1 hm
     rw [← e0]
     exact HIO.out.code f0 h0
    have HNU := Za hnum
    have HOK := Za hok'
    have HOE : Hid (O = if Ya (pgG R') = 0 then .inr R' else .inl (0, Ya (pgG R'))) := by
     show O = _
     rw [HOL.out, HLE.out]
     simp only
     rw [hfs]
     simp only
     rw [← hR']
    have HCK := Za (Zmn _ (pgG R') w5 _ hX.pg (Nat.le_refl _) (Zj3 hnum hok'))
    have HX5 := Za hX
    obtain ⟨da, dc, hdv⟩ := Zd hX.data
    obtain ⟨dn, hdn⟩ := nmd (R'.data.length)
    rw [← hdn] at hdv
    obtain ⟨fa, fc, hfv⟩ := Zd hX.fns
    obtain ⟨fn, hfn⟩ := nmd (R'.fs.length)
    rw [← hfn] at hfv
    have HDV := Za hdv
    have HFV := Za hfv
    have hbox := hX.box
    rw [hdv, hfv] at hbox
    rw [hdv, hfv] at HCK
    obtain ⟨cz, hcz⟩ := nmd (Ya (pgG R'))
    rw [← hcz] at HCK HOE
    have HCZ := Za hcz
    obtain ⟨mz, hmz⟩ := nmd (R'.mem)
    rw [← hmz] at hbox HCK
    have HMZ := Za hmz
    have HBX := Za hbox
    have r0 := Zb _ _ 0 _ _ _ hbox
    have r1 := Zb _ _ 1 _ _ _ hbox
    have r2 := Zb _ _ 2 _ _ _ hbox
    have HKX := Za hk5
    clear hX hfs so sl sc hR' hnum hok' hdv hfv hdn hfn hbox hk5 HST hcz hmz
    go_wp2_with fail
    refine HCK.out.mono ?_
    rintro e w6 ⟨rfl, hk6⟩
    have hx6 := Zc (HKX.out.trans hk6) HX1.out id
    obtain ⟨hx, hkx⟩ := Zct w6 p0 26 _ _ _ (.int .i64 mz) (.slice da dn dc) (.slice fa fn fc) hx6
    have hXw := ((HX5.out.same hk6).mono HK1.out).ch hkx (Yx hx6) (by decide) (by decide) (fun q hq => by have := HPW.out; omega)
    have HXF := Za hXw
    have HXX := Za hx
    obtain ⟨c0, c1, c2, f0, f1, f2⟩ := Zx hx6
    have hbox6 := Zc hk6 HBX.out id
    clear r0 r1 r2
    have r0 := Zb _ _ 0 _ _ _ hbox6
    have r1 := Zb _ _ 1 _ _ _ hbox6
    have r2 := Zb _ _ 2 _ _ _ hbox6
    clear hx hkx hx6 hXw hbox6 hk6 HCK
    go_wp2
    refine bodyPost_ret (v := .tuple #[.agg #[.int .i64 mz, .slice da dn dc, .slice fa fn fc], .int .i64 0, .int .i64 cz]) ?_ rfl ⟨mz, da, fa, dn, dc, fn, fc, 0, cz, rfl, HXF.out.kept, ?_⟩
    ·exact Zt (by rfl) _ _ p0 26 _ (0, 0) _ _ _ (by rfl) (by rfl) (by rfl) HXX.out Tryz.underlying26 rfl Zak
    ·by_cases hz : cz = 0
     ·refine .inr ⟨R', by rw [HOE.out, if_pos hz], hz, r, fv, lv, wv, gm, CV, GM, HFV.out, HMZ.out, HNU.out, HOK.out, by rw [← HCZ.out]; exact hz, ?_⟩
      have h9 := HXF.out
      rw [HDV.out] at h9
      exact h9
     ·exact .inl ⟨by rw [HOE.out, if_neg hz], hz⟩
   ·have HE : Hid (O = .inl (ln, 142)) := by
     show O = _
     rw [HOL.out, HLE.out]
     simp only
     rw [hln]
    obtain ⟨hx, hkx⟩ := Zct w5 p0 26 _ _ _ (.int .i64 0) (.slice none 0 0) (.slice none 0 0) (Zc hk5 HX1.out id)
    obtain ⟨c0, c1, c2, f0, f1, f2⟩ := Zx (Zc hk5 HX1.out id)
    have HX6 := Za hx
    have HK6 := Za ((HK1.out.trans hk5).step hkx (fun q hq e => by have := HPW.out; omega))
    clear hk5 hln hx hkx HST
    go_wp2
    refine bodyPost_ret (v := .tuple #[.agg #[.int .i64 0, .slice none 0 0, .slice none 0 0], .int .i64 ln, .int .i64 142]) ?_ rfl ⟨0, none, none, 0, 0, 0, 0, ln, 142, rfl, HK6.out, .inl ⟨HE.out, by decide⟩⟩
    exact Zt (by rfl) _ _ p0 26 _ (0, 0) _ _ _ (by rfl) (by rfl) (by rfl) HX6.out Tryz.underlying26 rfl Zak
end Go.Proofs.YtgoabnehdmdikaaGreatDoor
namespace Go.Proofs.YtgoabnehdmdikaaGreatDoor
open Go.RowKit
def Zv0 (o : (Int × Int) ⊕ Rdr) (w : World) (e : Ending) (w' : World) : Prop :=
 Kept nF w w' ∧ ((∃ ln er g, o = .inl (ln, er) ∧ er ≠ 0 ∧ e = .returned (.tuple #[.agg #[.int .i64 0, .slice none 0 0, .slice none 0 0], .iface 52 (.pointer (some ⟨g, 0, none⟩))]) ∧ w'.heap[g]? = some (.cells #[.int .i64 ln, .iface 41 (.int .i64 er)] 54 (0, 0))) ∨
  (∃ R' v, o = .inr R' ∧ Ya (pgG R') = 0 ∧ R'.Nums ∧ R'.Ok ∧ e = .returned (.tuple #[v, .nilIface]) ∧ PgIs w' w'.heap.size v (pgG R')))
theorem Zop (D : ByteArray) (hD : D.size ≤ 9223372036854775807) (w : World) (hG : Gs w) : Calls Tryz.prog 8 #[.string D] w (Zv0 (Zb4 D.data.toList) w) := by
 have hka : Kept nF w (w.alloc (.cells #[.int .i64 0, .slice none 0 0, .slice none 0 0] 26)) := (Kept.refl _ _).alloc _
 have HX := Za (heap_alloc_new w (.cells #[.int .i64 0, .slice none 0 0, .slice none 0 0] 26))
 have HR := Za (Zw6 D hD _ (hG.same hka))
 have HK := Za hka
 have HKW := Za hka
 generalize Zb4 D.data.toList = O at *
 clear hG hka hD
 go_enter Tryz.func8, Tryz.ntmps8
 go_wp2_with fail
 refine HR.out.mono ?_
 rintro e w2 ⟨m, a, a', k, c, k', c', ln, er, rfl, hk2, hcase⟩
 have HC := Za hcase
 have HX2 := Za (Zc hk2 HX.out id)
 have HK2 := Za (HK.out.trans hk2)
 obtain ⟨p0, hp0⟩ := nmd (w.heap.size)
 rw [← hp0] at HX2 ⊢
 have HPW : Hid (w.heap.size ≤ p0) := by rw [hp0]; exact Nat.le_refl _
 have HPL : Hid (p0 < w2.heap.size) := (Array.getElem?_eq_some_iff.1 HX2.out).1
 have hka : Kept nF w2 (w2.alloc (.cells #[.int .i64 m, .slice a k c, .slice a' k' c'] 26)) := (Kept.refl _ _).alloc _
 have HX3 := Za (Zc hka HX2.out id)
 have HY3 := Za (heap_alloc_new w2 (.cells #[.int .i64 m, .slice a k c, .slice a' k' c'] 26))
 have HK3 := Za (HK2.out.trans hka)
 have HKA := Za hka
 clear hk2 hka hcase HR HX HK HX2 HK2 hp0
 go_upto_region 2 with fail
 generalize w2.alloc (.cells #[.int .i64 m, .slice a k c, .slice a' k' c'] 26) = w3 at *
 generalize w2.heap.size = gy at *
 obtain ⟨c0, c1, c2, f0, f1, f2⟩ := Zx HX3.out
 obtain ⟨d0, d1, d2, _⟩ := Zx HY3.out
 rcases HC.out with ⟨hO, hne⟩ | ⟨R', hO, he0, r, fv, lv, wv, gm, CV, GM, hfv, hm, hnu, hok, hck, hX⟩
 ·have e0 : (er != 0) = true := by simp; exact hne
  have HO : Hid (O = .inl (ln, er) ∧ er ≠ 0) := ⟨hO, hne⟩
  clear hO hne HC HY3 d0 d1 d2
  have hkb : Kept nF w3 (w3.alloc (.cells #[.int .i64 ln, .iface 41 (.int .i64 er)] 54)) := (Kept.refl _ _).alloc _
  have hbx := heap_alloc_new w3 (.cells #[.int .i64 ln, .iface 41 (.int .i64 er)] 54)
  have hx4 := Zc hkb HX3.out id
  obtain ⟨hx, hkx⟩ := Zct (w3.alloc (.cells #[.int .i64 ln, .iface 41 (.int .i64 er)] 54)) p0 26 _ _ _ (.int .i64 0) (.slice none 0 0) (.slice none 0 0) hx4
  obtain ⟨g0, g1, g2, h0, h1, h2⟩ := Zx hx4
  have HX5 := Za hx
  have HK5 := Za ((HK3.out.trans hkb).step hkx (fun q hq e => by have := HPW.out; omega))
  have HBX := Za (Zc hkx hbx (fun e => Xi hbx hx4 (by decide) e))
  clear hkb hbx hx4 hx hkx
  go_wp2
  refine bodyPost_ret (v := .tuple #[.agg #[.int .i64 0, .slice none 0 0, .slice none 0 0], .iface 52 (.pointer (some ⟨w3.heap.size, 0, none⟩))]) ?_ rfl ⟨HK5.out, .inl ⟨ln, er, _, HO.out.1, HO.out.2, rfl, HBX.out⟩⟩
  exact Zh (by rfl) _ _ ⟨p0, 0, none⟩ _ _ (by rfl) (by rfl) (run_loadVar_row _ p0 26 26 _ (0, 0) _ HX5.out Tryz.underlying26 rfl Zak)
 ·have HO : Hid (O = .inr R' ∧ Ya (pgG R') = 0 ∧ R'.Nums ∧ R'.Ok) := ⟨hO, hck, hnu, hok⟩
  obtain ⟨hx, hkx⟩ := Zct w3 p0 26 _ _ _ (.int .i64 m) (.slice a k c) (.slice a' k' c') HX3.out
  have HX4 := Za hx
  have HK4 := Za (HK3.out.step hkx (fun q hq e => by have := HPW.out; omega))
  have hX4 : RdX w _ r R' (.slice a k c) fv lv wv gm CV GM := ((hX.mono HKW.out).same HKA.out).ch hkx (Yx HX3.out) (by decide) (by decide) (fun q hq => by have := HPW.out; omega)
  have hpg := hX4.pg
  rw [hfv, ← hm] at hpg
  have HPG := Za hpg
  subst he0
  clear hO hck hnu hok hX hX4 hpg hx hkx HC HX3 HY3 HK3 hfv hm
  go_wp2
  refine bodyPost_ret (v := .tuple #[.agg #[.int .i64 m, .slice a k c, .slice a' k' c'], .nilIface]) ?_ rfl ⟨HK4.out, .inr ⟨R', _, HO.out.1, HO.out.2.1, HO.out.2.2.1, HO.out.2.2.2, rfl, HPG.out⟩⟩
  exact Zh (by rfl) _ _ ⟨p0, 0, none⟩ _ _ (by rfl) (by rfl) (run_loadVar_row _ p0 26 26 _ (0, 0) _ HX4.out Tryz.underlying26 rfl Zak)
end Go.Proofs.YtgoabnehdmdikaaGreatDoor

import Derived.Test.YtpfmhibdmehlcaaGreatDoorTOx29
namespace Go.Proofs.YtpfmhibdmehlcaaGreatDoor
open Go.RowKit
set_option linter.unusedVariables false
set_option linter.unusedSimpArgs false
set_option maxRecDepth 100000
theorem i64_small {x : Int} (h0 : 0 ≤ x) (h1 : x ≤ 1000000) : I64 x := ⟨by omega, by omega⟩
theorem i64_zero : I64 0 := ⟨by decide, by decide⟩
theorem parseI_range {l : List UInt8} {v : Int} (h : Lib.parseIntB 64 l = .ok v) : I64 v := by
 unfold Lib.parseIntB at h
 split at h
 ·cases h
 ·simp only at h
  split at h
  ·cases h
  ·cases h
  ·split at h
   ·cases h
   ·split at h
    ·cases h
    rename_i h1 h2
    injection h with h
    have e63 : (2 : Nat) ^ (64 - 1) = 9223372036854775808 := by decide
    rw [e63] at h1 h2
    unfold I64
    split at h <;> rename_i hn
    ·rcases Nat.lt_or_ge 9223372036854775808 _ with hh | hh
     ·exact absurd ⟨hn, hh⟩ h2
     ·omega
    ·rcases Nat.lt_or_ge _ 9223372036854775808 with hh | hh
     ·omega
     ·exact absurd ⟨hn, hh⟩ h1
theorem valN_range (l : List UInt8) : I64 (valN l) := by
 unfold valN
 split
 ·unfold wrap64 I64
  omega
 ·split
  ·rename_i h
   exact parseI_range h
  ·unfold Lib.intSat I64
   split <;> decide
theorem beg_num {x y : CS} {r : Int} (h : begP x r = some y) : ∀ p ∈ y.ps, p ∈ x.ps ∨ I64 p.n := by
 unfold begP at h
 repeat' split at h
 all_goals first | (cases h; done) | skip
 all_goals
  injection h with h
  subst h
  intro p hp
  simp only [List.mem_append, List.mem_singleton] at hp
  first
   | exact .inl hp
   | (
     rcases hp with hp | rfl
     ·exact .inl hp
     ·exact .inr i64_zero)
theorem end_nm (x : CS) : ∀ p ∈ (endS x).ps, p ∈ x.ps ∨ I64 p.n := by
 intro p hp
 unfold endS at hp
 split at hp
 ·simp only [List.mem_append, List.mem_singleton] at hp
  rcases hp with hp | rfl
  ·exact .inl hp
  ·exact .inr i64_zero
 ·split at hp
  ·simp only [List.mem_append, List.mem_singleton] at hp
   rcases hp with hp | rfl
   ·exact .inl hp
   ·exact .inr (valN_range _)
  ·exact .inl hp
theorem take_num {x y : CS} {r : Int} (h : takeP x r = some y) : ∀ p ∈ y.ps, p ∈ x.ps ∨ I64 p.n := by
 unfold takeP at h
 split at h
 ·split at h
  ·injection h with h
   subst h
   exact fun p hp => .inl hp
  ·split at h
   ·intro p hp
    rcases beg_num h p hp with h1 | h1
    ·exact end_nm x p h1
    ·exact .inr h1
   ·cases h
 ·split at h
  ·unfold withP at h
   repeat' split at h
   all_goals first | (cases h; done) | skip
   all_goals
    injection h with h
    subst h
    intro p hp
    first
     | exact .inl hp
     | (
       simp only [List.mem_append, List.mem_singleton] at hp
       rcases hp with hp | rfl
       ·exact .inl hp
       ·exact .inr i64_zero)
  ·split at h
   ·unfold escP at h
    repeat' split at h
    all_goals first | (cases h; done) | skip
    all_goals
     injection h with h
     subst h
     exact fun p hp => .inl hp
   ·split at h
    ·unfold digP at h
     repeat' split at h
     all_goals first | (cases h; done) | skip
     all_goals
      injection h with h
      subst h
      exact fun p hp => .inl hp
    ·exact beg_num h
theorem cut_num : ∀ (l : List UInt8) (x y : CS), cutF l x = some y → (∀ p ∈ x.ps, I64 p.n) → ∀ p ∈ y.ps, I64 p.n
 | [], x, y, h, hp => by
  rw [cutF] at h
  cases h
  exact hp
 | b :: l, x, y, h, hp => by
  rw [cutF] at h
  split at h
  ·cases h
   exact hp
  ·cases ht : takeP x (b.toNat : Int) with
   | none => rw [ht] at h; cases h
   | some z =>
    rw [ht] at h
    exact cut_num l z y h (fun p hpz => (take_num ht p hpz).elim (hp p) id)
theorem cutV_num {l : List UInt8} {ps : List Pf} (h : cutV l = some ps) : ∀ p ∈ ps, I64 p.n := by
 unfold cutV at h
 cases hc : cutF l ⟨[], 0, [], 0⟩ with
 | none => rw [hc] at h; cases h
 | some x =>
  rw [hc] at h
  simp only at h
  split at h
  ·cases h
   exact fun p hp => (end_nm x p hp).elim (cut_num l _ x hc (by simp) p) id
  ·cases h
structure Inv (R : Rdr) (n : Nat) : Prop where
 fs : R.fs.length ≤ n
 code : ∀ f ∈ R.fs, f.code.length ≤ n
 ws : R.ws.length ≤ n
 data : R.data.length ≤ n * 65536
 wok : WOk R.ws R.fs
 nums : R.Nums
theorem Inv.ok {R : Rdr} {n : Nat} (h : Inv R n) (hn : n ≤ 65537) : R.Ok := by
 have h1 := h.fs
 have h2 := h.ws
 have h3 := h.data
 refine ⟨by omega, fun f hf => by have := h.code f hf; omega, by omega, by omega, fun x hx => ?_⟩
 obtain ⟨f, hf, _⟩ := h.wok x hx
 exact (List.getElem?_eq_some_iff.1 hf).1
theorem Inv.mono {R : Rdr} {n m : Nat} (h : Inv R n) (hm : n ≤ m) : Inv R m := by
 have h3 := h.data
 exact ⟨Nat.le_trans h.fs hm, fun f hf => Nat.le_trans (h.code f hf) hm, Nat.le_trans h.ws hm, Nat.le_trans h3 (Nat.mul_le_mul_right _ hm), h.wok, h.nums⟩
theorem Inv.first : Inv ⟨0, false, [], [], []⟩ 0 := ⟨Nat.le_refl _, fun f hf => absurd hf List.not_mem_nil, Nat.le_refl _, Nat.zero_le _, fun x hx => absurd hx List.not_mem_nil, ⟨i64_zero, fun x hx => absurd hx List.not_mem_nil, fun f hf => absurd hf List.not_mem_nil⟩⟩
variable {R R' : Rdr} {n : Nat}
theorem head_n {l : List Pf} (h : ∀ p ∈ l, I64 p.n) : I64 ((l.map Pf.n).headD 0) := by
 cases l with
 | nil => exact i64_zero
 | cons p l => exact h p List.mem_cons_self
theorem inv_mem {l : List Pf} (h : Inv R n) (hl : ∀ p ∈ l, I64 p.n) (e : memP R l = .good R') : Inv R' n := by
 unfold memP at e
 split at e
 ·cases e
 ·split at e
  ·cases e
  ·cases e
   exact ⟨h.fs, h.code, h.ws, h.data, h.wok, ⟨head_n hl, h.nums.data, h.nums.fns⟩⟩
theorem inv_dat {l : List Pf} (h : Inv R n) (hl : ∀ p ∈ l, p.s.size ≤ 65536) (e : datP R l = .good R') : Inv R' (n + 1) := by
 unfold datP at e
 split at e
 ·cases e
 ·cases e
  have hs : ((l.map Pf.s).headD ⟨#[]⟩).size ≤ 65536 := by
   cases l with
   | nil => show (0 : Nat) ≤ _; omega
   | cons p l => exact hl p List.mem_cons_self
  have hb : (bytI ((l.map Pf.s).headD ⟨#[]⟩)).length ≤ 65536 := by
   unfold bytI
   rw [List.length_map, ← Lib.size_eq]
   exact hs
  have h3 := h.data
  have hm := h.mono (Nat.le_succ n)
  refine ⟨hm.fs, hm.code, hm.ws, ?_, h.wok, ⟨h.nums.mem, fun x hx => ?_, h.nums.fns⟩⟩
  ·show (R.data ++ _).length ≤ _
   rw [List.length_append]
   omega
  ·rcases List.mem_append.1 (show x ∈ R.data ++ bytI _ from hx) with hx | hx
   ·exact h.nums.data x hx
   ·unfold bytI at hx
    obtain ⟨b, _, rfl⟩ := List.mem_map.1 hx
    have := b.toNat_lt
    omega
theorem wok_snoc {ws : List Wt} {fs : List Fnc} (h : WOk ws fs) (f : Fnc) : WOk ws (fs ++ [f]) := fun x hx => by
 obtain ⟨g, h1, h2⟩ := h x hx
 exact ⟨g, by rw [List.getElem?_append_left (List.getElem?_eq_some_iff.1 h1).1]; exact h1, h2⟩
theorem inv_fun {l : List Pf} (h : Inv R n) (hl : ∀ p ∈ l, I64 p.n) (e : funP R l = .good R') : Inv R' (n + 1) := by
 unfold funP at e
 split at e
 ·rename_i p q1 q2 q3
  split at e
  ·cases e
  ·split at e
   ·cases e
   ·split at e
    ·cases e
    ·cases e
     have hm := h.mono (Nat.le_succ n)
     have h1 := h.fs
     refine ⟨?_, fun f hf => ?_, hm.ws, hm.data, wok_snoc h.wok _, ⟨h.nums.mem, h.nums.data, fun f hf => ?_⟩⟩
     ·show (R.fs ++ [_]).length ≤ _
      rw [List.length_append]
      simp only [List.length_cons, List.length_nil]
      omega
     ·rcases List.mem_append.1 hf with hf | hf
      ·exact hm.code f hf
      ·rw [List.mem_singleton.1 hf]
       exact Nat.zero_le _
     ·rcases List.mem_append.1 hf with hf | hf
      ·exact h.nums.fns f hf
      ·rw [List.mem_singleton.1 hf]
       exact ⟨hl q1 (by simp), hl q2 (by simp), hl q3 (by simp), by simp, by simp⟩
 ·cases e
theorem labF_ok : ∀ (ls : List ByteArray) (f g : Fnc), labF f ls = some g → f.Ok → f.code.length ≤ 100000 → g.Ok
 | [], f, g, h, ho, _ => by cases h; exact ho
 | s :: ss, f, g, h, ho, hc => by
  rw [labF] at h
  by_cases hs : (lkA f.ls s).isSome = true
  ·rw [if_pos hs] at h
   cases h
  ·rw [if_neg hs] at h
   refine labF_ok ss ⟨f.nm, f.a, f.l, f.r, f.ls ++ [(s, (f.code.length : Int))], f.code⟩ g h ⟨ho.a, ho.l, ho.r, ho.code, fun x hx => ?_⟩ hc
   rcases List.mem_append.1 hx with hx | hx
   ·exact ho.ls x hx
   ·rw [List.mem_singleton.1 hx]
    exact i64_small (by show (0 : Int) ≤ (f.code.length : Int); omega) (by show (f.code.length : Int) ≤ _; omega)
theorem oper_ok {k : Nat} {kd : Int} {l : List Pf} {op a : Int} {s : ByteArray} (hk : k < 46) (hl : ∀ p ∈ l, I64 p.n) (h : operF k kd l = some (op, a, s)) : op = (k : Int) ∧ I64 a := by
 cases l with
 | nil =>
  rw [operF] at h
  split at h
  ·cases h
   exact ⟨rfl, i64_zero⟩
  ·cases h
 | cons q r =>
  rw [operF] at h
  repeat' split at h
  all_goals first | (cases h; done) | skip
  all_goals
   injection h with h
   injection h with h1 h
   injection h with h2 h3
   refine ⟨h1.symm, ?_⟩
   rw [← h2]
  ·exact hl q List.mem_cons_self
  ·exact i64_zero
  ·rename_i c hc
   have := ixN_lt hc
   have h5 : sysL.length = 5 := rfl
   exact i64_small (by omega) (by omega)
theorem instr_ok {l : List Pf} {op a : Int} {s : ByteArray} (hl : ∀ p ∈ l, I64 p.n) (h : instrF l = some (op, a, s)) : 0 ≤ op ∧ op < 46 ∧ I64 a := by
 cases l with
 | nil => cases h
 | cons p r =>
  rw [instrF] at h
  split at h
  ·split at h
   ·rename_i k hk
    have hk46 : k < 46 := ixN_lt hk
    obtain ⟨h1, h2⟩ := oper_ok hk46 (fun q hq => hl q (List.mem_cons_of_mem _ hq)) h
    exact ⟨by omega, by omega, h2⟩
   ·cases h
  ·cases h
theorem wok_last {ws : List Wt} {gs : List Fnc} {f g : Fnc} (h : WOk ws (gs ++ [f])) (hc : f.code.length ≤ g.code.length) : WOk ws (gs ++ [g]) := fun x hx => by
 obtain ⟨k, h1, h2⟩ := h x hx
 by_cases hi : x.fn < gs.length
 ·exact ⟨k, by rw [List.getElem?_append_left hi] at h1 ⊢; exact h1, h2⟩
 ·have h0 : x.fn = gs.length := by
   have := (List.getElem?_eq_some_iff.1 h1).1
   rw [List.length_append] at this
   simp at this
   omega
  rw [h0, snoc_last] at h1
  cases h1
  exact ⟨g, by rw [h0, snoc_last], by omega⟩
theorem inv_code {gs : List Fnc} {f : Fnc} {ln : Int} {ls : List ByteArray} {l : List Pf} (h : Inv R n) (hn : n ≤ 65537) (hf : R.fs = gs ++ [f]) (hl : ∀ p ∈ l, I64 p.n) (e : codeF R gs f ln ls l = .good R') : Inv R' (n + 1) := by
 have hm := h.mono (Nat.le_succ n)
 have hfm : f ∈ R.fs := by rw [hf]; simp
 have hfo := h.nums.fns f hfm
 have hfc := h.code f hfm
 have hfl : gs.length + 1 = R.fs.length := by rw [hf]; simp
 have h1 := h.fs
 unfold codeF at e
 split at e
 ·cases e
 ·split at e
  ·cases e
  ·split at e
   ·cases e
   ·rename_i g hg
    have hgc := labF_code _ _ _ hg
    have hgo := labF_ok _ _ _ hg hfo (by omega)
    have hgl := congrArg List.length hgc
    split at e
    ·cases e
     refine ⟨?_, fun k hk => ?_, hm.ws, hm.data, ?_, ⟨h.nums.mem, h.nums.data, fun k hk => ?_⟩⟩
     ·show (gs ++ [g]).length ≤ _
      rw [List.length_append]
      simp only [List.length_cons, List.length_nil]
      omega
     ·rcases List.mem_append.1 (show k ∈ gs ++ [g] from hk) with hk | hk
      ·exact hm.code k (by rw [hf]; exact List.mem_append_left _ hk)
      ·rw [List.mem_singleton.1 hk]; omega
     ·have := h.wok
      rw [hf] at this
      exact wok_last this (by omega)
     ·rcases List.mem_append.1 (show k ∈ gs ++ [g] from hk) with hk | hk
      ·exact h.nums.fns k (by rw [hf]; exact List.mem_append_left _ hk)
      ·rw [List.mem_singleton.1 hk]; exact hgo
    ·split at e
     ·cases e
     ·rename_i op a w hi
      cases e
      obtain ⟨i1, i2, i3⟩ := instr_ok hl hi
      have hal : (addC g op a).code.length = g.code.length + 1 := by simp [addC]
      refine ⟨?_, fun k hk => ?_, ?_, hm.data, ?_, ⟨h.nums.mem, h.nums.data, fun k hk => ?_⟩⟩
      ·show (gs ++ [addC g op a]).length ≤ _
       rw [List.length_append]
       simp only [List.length_cons, List.length_nil]
       omega
      ·rcases List.mem_append.1 (show k ∈ gs ++ [addC g op a] from hk) with hk | hk
       ·exact hm.code k (by rw [hf]; exact List.mem_append_left _ hk)
       ·rw [List.mem_singleton.1 hk, hal]; omega
      ·show (R.ws ++ addW _ _ _ _ _).length ≤ _
       have h2 := h.ws
       rw [List.length_append]
       unfold addW
       split <;> simp only [List.length_cons, List.length_nil] <;> omega
      ·have h4 := h.wok
       rw [hf] at h4
       have h5 : WOk R.ws (gs ++ [addC g op a]) := wok_last h4 (by omega)
       intro x hx
       rcases List.mem_append.1 (show x ∈ R.ws ++ addW _ _ _ _ _ from hx) with hx | hx
       ·exact h5 x hx
       ·unfold addW at hx
        split at hx
        ·simp at hx
        ·rw [List.mem_singleton.1 hx]
         exact ⟨addC g op a, snoc_last _ _, by show g.code.length < _; omega⟩
      ·rcases List.mem_append.1 (show k ∈ gs ++ [addC g op a] from hk) with hk | hk
       ·exact h.nums.fns k (by rw [hf]; exact List.mem_append_left _ hk)
       ·rw [List.mem_singleton.1 hk]
        refine ⟨hgo.a, hgo.l, hgo.r, fun y hy => ?_, hgo.ls⟩
        rcases List.mem_append.1 (show y ∈ g.code ++ [⟨op, a⟩] from hy) with hy | hy
        ·exact hgo.code y hy
        ·rw [List.mem_singleton.1 hy]
         exact ⟨⟨by show _ ≤ op; omega, by show op < _; omega⟩, i3.1, i3.2⟩
theorem inv_codeP {ln : Int} {ls : List ByteArray} {l : List Pf} (h : Inv R n) (hn : n ≤ 65537) (hl : ∀ p ∈ l, I64 p.n) (e : codeP R ln ls l = .good R') : Inv R' (n + 1) := by
 by_cases hf : R.fs = []
 ·rw [codeP_nil R ln ls l hf] at e
  cases e
 ·obtain ⟨m, hm⟩ : ∃ m, R.fs.length = m + 1 := ⟨R.fs.length - 1, by have := List.length_pos_iff.2 hf; omega⟩
  obtain ⟨gs, f, hfs, hgl⟩ := snoc_of hm
  rw [codeP_snoc R ln ls l gs f hfs] at e
  exact inv_code h hn hfs hl e
theorem inv_line {ln : Int} {b : List UInt8} (h : Inv R n) (hn : n ≤ 65537) (hb : b.length ≤ 65536) (e : lineP R ln (cutV b) = .good R') : Inv R' (n + 1) := by
 cases hc : cutV b with
 | none => rw [hc] at e; cases e
 | some ps =>
  rw [hc] at e
  obtain ⟨c1, c2⟩ := cutV_bound hc
  have c3 := cutV_num hc
  have hlab := (labP_len ps).2
  have d2 : ∀ p ∈ (labP ps).2, p.s.size ≤ 65536 := fun p hp => Nat.le_trans (c2 p (hlab p hp)) hb
  have d3 : ∀ p ∈ (labP ps).2, I64 p.n := fun p hp => c3 p (hlab p hp)
  have e' : (if (labP ps).1 = [] then headP R ln (labP ps).2 else codeP R ln (labP ps).1 (labP ps).2) = .good R' := e
  split at e'
  ·cases hq : (labP ps).2 with
   | nil =>
    rw [hq] at e'
    cases e'
    exact h.mono (Nat.le_succ n)
   | cons p l =>
    rw [hq] at e' d2 d3
    rw [headP] at e'
    have d2' := fun q hq => d2 q (List.mem_cons_of_mem _ hq)
    have d3' := fun q hq => d3 q (List.mem_cons_of_mem _ hq)
    split at e'
    ·cases e'
    ·split at e'
     ·exact (inv_mem h d3' e').mono (Nat.le_succ n)
     ·split at e'
      ·exact inv_dat h d2' e'
      ·split at e'
       ·exact inv_fun h d3' e'
       ·exact inv_codeP h hn d3 e'
  ·exact inv_codeP h hn d3 e'
theorem lkA_num : ∀ (L : List (ByteArray × Int)) (s : ByteArray) (v : Int), lkA L s = some v → ∃ x ∈ L, x.2 = v
 | [], s, v, h => by cases h
 | (k, a) :: L, s, v, h => by
  rw [lkA] at h
  split at h
  ·cases h
   exact ⟨_, List.mem_cons_self, rfl⟩
  ·obtain ⟨x, hx, e⟩ := lkA_num L s v h
   exact ⟨x, List.mem_cons_of_mem _ hx, e⟩
theorem nmL_num : ∀ (k : Nat) (fs : List Fnc), ∀ x ∈ nmL k fs, 0 ≤ x.2 ∧ x.2 ≤ ((k + fs.length : Nat) : Int)
 | k, [], x, h => by simp [nmL] at h
 | k, f :: fs, x, h => by
  rw [nmL] at h
  simp only [List.length_cons]
  rcases List.mem_cons.1 h with rfl | h
  ·simp only
   omega
  ·have := nmL_num (k + 1) fs x h
   omega
theorem wtL_num {fs : List Fnc} {x : Wt} {v : Int} (hf : ∀ f ∈ fs, f.Ok) (hl : fs.length ≤ 90000) (h : wtL fs x = some v) : I64 v := by
 unfold wtL at h
 split at h
 ·split at h
  ·rename_i f hg
   obtain ⟨y, hy, rfl⟩ := lkA_num _ _ _ h
   exact (hf f (List.mem_of_getElem? hg)).ls y hy
  ·cases h
 ·obtain ⟨y, hy, rfl⟩ := lkA_num _ _ _ h
  have := nmL_num 0 fs y hy
  exact i64_small (by omega) (by omega)
theorem setA_ok {fs : List Fnc} (hf : ∀ f ∈ fs, f.Ok) (k p : Nat) {v : Int} (hv : I64 v) : ∀ f ∈ setA fs k p v, f.Ok := by
 intro f hm
 unfold setA at hm
 split at hm
 ·rename_i g hg
  rcases List.mem_or_eq_of_mem_set hm with h | h
  ·exact hf f h
  ·have ho := hf g (List.mem_of_getElem? hg)
   rw [h]
   refine ⟨ho.a, ho.l, ho.r, fun y hy => ?_, ho.ls⟩
   by_cases hp : p < g.code.length
   ·rcases List.mem_or_eq_of_mem_set (show y ∈ g.code.set p _ from hy) with h1 | h1
    ·exact ho.code y h1
    ·rw [h1]
     have hm := ho.code (g.code.getD p ⟨0, 0⟩) (by rw [List.getD_eq_getElem?_getD, List.getElem?_eq_getElem hp]; exact List.getElem_mem hp)
     exact ⟨hm.1, hv.1, hv.2⟩
   ·rw [show (setC g p v).code = g.code by unfold setC; exact List.set_eq_of_length_le (by omega)] at hy
    exact ho.code y hy
 ·exact hf f hm
theorem setA_code (fs : List Fnc) (k p : Nat) (v : Int) : (setA fs k p v).map (fun f => f.code.length) = fs.map (fun f => f.code.length) := by
 unfold setA
 split
 ·rename_i g hg
  exact map_set_same (fun f : Fnc => f.code.length) fs k g (setC g p v) hg (by simp [setC])
 ·rfl
theorem settle_ok : ∀ (ws : List Wt) (fs fs' : List Fnc), settleF ws fs = .inr fs' → (∀ f ∈ fs, f.Ok) → fs.length ≤ 90000 → (∀ f ∈ fs', f.Ok) ∧ fs'.length = fs.length ∧ fs'.map (fun f => f.code.length) = fs.map (fun f => f.code.length)
 | [], fs, fs', h, hf, _ => by
  cases h
  exact ⟨hf, rfl, rfl⟩
 | x :: ws, fs, fs', h, hf, hl => by
  rw [settleF] at h
  split at h
  ·cases h
  ·rename_i v hv
   obtain ⟨h1, h2, h3⟩ := settle_ok ws _ fs' h (setA_ok hf _ _ (wtL_num hf hl hv)) (by rw [setA_len]; exact hl)
   exact ⟨h1, by rw [h2, setA_len], by rw [h3, setA_code]⟩
end Go.Proofs.YtpfmhibdmehlcaaGreatDoor

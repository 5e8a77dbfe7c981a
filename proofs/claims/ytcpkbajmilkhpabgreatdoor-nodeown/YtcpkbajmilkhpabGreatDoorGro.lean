/-
  NodeOwn: what its loops hold.
-/
import Derived.Test.YtcpkbajmilkhpabGreatDoorGnl
import Derived.Test.YtcpkbajmilkhpabGreatDoorNbz
namespace Go.Proofs.YtcpkbajmilkhpabGreatDoor
open Go.RowKit
set_option linter.unusedVariables false
set_option linter.unusedSimpArgs false

/-- Rows of two element types are apart. -/
theorem own_apart {w : World} {B B' e e' s s' n n' : Nat} {v v' : Value} {xs xs' : List Value} (h : w.ownsRow B e s v n xs) (h' : w.ownsRow B' e' s' v' n' xs') (hne : e ≠ e') {q : Nat} (hq : v.ownBlock = some q) : v'.ownBlock ≠ some q := by
  intro hq'
  rcases h.2 with ⟨rfl, _⟩ | ⟨g, cap, cur, rfl, _, hg, _⟩
  · cases hq
  · rcases h'.2 with ⟨rfl, _⟩ | ⟨g', cap', cur', rfl, _, hg', _⟩
    · cases hq'
    · have e1 : g = q := Option.some.inj hq
      have e2 : g' = q := Option.some.inj hq'
      subst e1
      rw [e2, hg] at hg'
      have := Option.some.inj hg'
      cases this
      exact hne rfl

/-- What is handed out so far: lists of bytes, rows of instructions. -/
structure OwnI (w wr : World) (bv rv : Value) (bs rs : List RL) : Prop where
  kept : Kept (fun _ => False) w wr
  b : RLs 5 27 1 wr bv bs
  r : RLs 41 22 34 wr rv rs
  bn : ∀ q, bv.ownBlock = some q → w.heap.size ≤ q
  rn : ∀ q, rv.ownBlock = some q → w.heap.size ≤ q
  bb : ∀ q, Blk bs q → w.heap.size ≤ q
  rb : ∀ q, Blk rs q → w.heap.size ≤ q
  bl : ∀ i, i < bs.length → (rlAt bs i).n ≤ 4194304
  rl : ∀ i, i < rs.length → (rlAt rs i).n ≤ 4194304
  b0 : bs = [] → bv = .slice none 0 0
  r0 : rs = [] → rv = .slice none 0 0

theorem OwnI.start (w : World) : OwnI w w (.slice none 0 0) (.slice none 0 0) [] [] :=
  ⟨Kept.refl _ _, RLs.nil w, RLs.nil w, fun q hq => (by cases hq), fun q hq => (by cases hq), fun q ⟨i, hi, _⟩ => absurd hi (by simp), fun q ⟨i, hi, _⟩ => absurd hi (by simp), fun i hi => absurd hi (by simp), fun i hi => absurd hi (by simp), fun _ => rfl, fun _ => rfl⟩
theorem OwnI.same {w wr w' : World} {bv rv : Value} {bs rs : List RL} (h : OwnI w wr bv rv bs rs) (hk : Kept (fun _ => False) wr w') : OwnI w w' bv rv bs rs :=
  ⟨h.kept.trans hk, h.b.same hk, h.r.same hk, h.bn, h.rn, h.bb, h.rb, h.bl, h.rl, h.b0, h.r0⟩
/-- A block that came later may turn. -/
theorem OwnI.over {w wr w' : World} {bv rv : Value} {bs rs : List RL} {g : Nat} (h : OwnI w wr bv rv bs rs) (hg : wr.heap.size ≤ g) (hk : Kept (fun k => k = g) wr w') : OwnI w w' bv rv bs rs :=
  h.same (hk.mono (fun k hl e => by omega))

theorem rlAt_two (a b : RL) {i : Nat} (h : i < [a, b].length) : i = 0 ∧ rlAt [a, b] i = a ∨ i = 1 ∧ rlAt [a, b] i = b := by
  match i, h with
  | 0, _ => exact .inl ⟨rfl, rfl⟩
  | 1, _ => exact .inr ⟨rfl, rfl⟩
theorem rlAt_app (ls bs : List RL) (i : Nat) : rlAt (ls ++ bs) i = if i < ls.length then rlAt ls i else rlAt bs (i - ls.length) := by
  unfold rlAt
  by_cases h : i < ls.length
  · rw [if_pos h, List.getD, List.getElem?_append_left h]; rfl
  · rw [if_neg h, List.getD, List.getElem?_append_right (by omega)]; rfl
theorem blk_app {ls : List RL} {a b : RL} {q : Nat} (h : Blk (ls ++ [a, b]) q) : Blk ls q ∨ a.v.ownBlock = some q ∨ b.v.ownBlock = some q := by
  obtain ⟨i, hi, hq⟩ := h
  rw [rlAt_app] at hq
  by_cases hl : i < ls.length
  · rw [if_pos hl] at hq; exact .inl ⟨i, hl, hq⟩
  · rw [if_neg hl] at hq
    rw [List.length_append] at hi
    rcases rlAt_two a b (i := i - ls.length) (by omega) with ⟨_, e⟩ | ⟨_, e⟩ <;> rw [e] at hq
    · exact .inr (.inl hq)
    · exact .inr (.inr hq)
theorem len_app {ls : List RL} {a b : RL} {M : Nat} (h : ∀ i, i < ls.length → (rlAt ls i).n ≤ M) (ha : a.n ≤ M) (hb : b.n ≤ M) : ∀ i, i < (ls ++ [a, b]).length → (rlAt (ls ++ [a, b]) i).n ≤ M := by
  intro i hi
  rw [rlAt_app]
  by_cases hl : i < ls.length
  · rw [if_pos hl]; exact h i hl
  · rw [if_neg hl]
    rw [List.length_append] at hi
    rcases rlAt_two a b (i := i - ls.length) (by omega) with ⟨_, e⟩ | ⟨_, e⟩ <;> rw [e] <;> assumption

/-- Two more rows are put behind. -/
theorem RLs.push2 {e et s : Nat} {w w' : World} {lv lv' : Value} {ls : List RL} {a b : RL} (h : RLs e et s w lv ls) (hne : e ≠ et) (ha : w.ownsRow 0 e s a.v a.n a.xs) (hb : w.ownsRow 0 e s b.v b.n b.xs)
    (hab : ∀ q, a.v.ownBlock = some q → b.v.ownBlock ≠ some q) (hal : ∀ q, Blk ls q → a.v.ownBlock ≠ some q) (hbl : ∀ q, Blk ls q → b.v.ownBlock ≠ some q)
    (hown : w'.ownsRow 0 et 1 lv' (ls.length + 2) (ls.map RL.v ++ [a.v, b.v])) (hk : Kept (fun q => lv.ownBlock = some q) w w') (hat : lv'.ownBlock = lv.ownBlock ∨ ∀ q, lv'.ownBlock = some q → w.heap.size ≤ q) : RLs e et s w' lv' (ls ++ [a, b]) := by
  refine h.push (bs := [a, b]) (fun i hi => ?_) (fun i j hij hj => ?_) (fun i hi q hq => ?_) (fun i hi q hq => ?_) hown hk hat
  · rcases rlAt_two a b hi with ⟨_, e⟩ | ⟨_, e⟩ <;> rw [e] <;> assumption
  · have hj2 : j < 2 := hj
    obtain rfl : i = 0 := by omega
    obtain rfl : j = 1 := by omega
    exact hab
  · rcases rlAt_two a b hi with ⟨_, e⟩ | ⟨_, e⟩ <;> rw [e]
    · exact hal q hq
    · exact hbl q hq
  · rcases rlAt_two a b hi with ⟨_, e⟩ | ⟨_, e⟩ <;> rw [e] at hq
    · exact own_apart ha h.row hne hq
    · exact own_apart hb h.row hne hq

theorem OwnI.pushB {w W W' : World} {bv rv bv' : Value} {bs rs : List RL} {a b : RL} (h : OwnI w W bv rv bs rs) (ha : W.ownsRow 0 5 1 a.v a.n a.xs) (hb : W.ownsRow 0 5 1 b.v b.n b.xs)
    (hab : ∀ q, a.v.ownBlock = some q → b.v.ownBlock ≠ some q) (hal : ∀ q, Blk bs q → a.v.ownBlock ≠ some q) (hbl : ∀ q, Blk bs q → b.v.ownBlock ≠ some q)
    (han : ∀ q, a.v.ownBlock = some q → w.heap.size ≤ q) (hbn : ∀ q, b.v.ownBlock = some q → w.heap.size ≤ q) (hna : a.n ≤ 4194304) (hnb : b.n ≤ 4194304)
    (hown : W'.ownsRow 0 27 1 bv' (bs.length + 2) (bs.map RL.v ++ [a.v, b.v])) (hk : Kept (fun q => bv.ownBlock = some q) W W') (hat : bv'.ownBlock = bv.ownBlock ∨ ∀ q, bv'.ownBlock = some q → W.heap.size ≤ q) : OwnI w W' bv' rv (bs ++ [a, b]) rs :=
  ⟨h.kept.step hk (fun q hq e => by have := h.bn q e; omega), h.b.push2 (by decide) ha hb hab hal hbl hown hk hat,
   h.r.kept hk (fun q hq e => own_apart h.b.row h.r.row (by decide) e hq) (fun q ⟨i, hi, hq⟩ e => own_apart h.b.row (h.r.own i hi) (by decide) e hq),
   fun q hq => by
     rcases hat with e | e
     · rw [e] at hq; exact h.bn q hq
     · have := e q hq; have := h.kept.size; omega, h.rn, fun q hq => by
     rcases blk_app hq with hq | hq | hq
     · exact h.bb q hq
     · exact han q hq
     · exact hbn q hq, h.rb, len_app h.bl hna hnb, h.rl, fun e => by simp at e, h.r0⟩
theorem OwnI.pushR {w W W' : World} {bv rv rv' : Value} {bs rs : List RL} {a b : RL} (h : OwnI w W bv rv bs rs) (ha : W.ownsRow 0 41 34 a.v a.n a.xs) (hb : W.ownsRow 0 41 34 b.v b.n b.xs)
    (hab : ∀ q, a.v.ownBlock = some q → b.v.ownBlock ≠ some q) (hal : ∀ q, Blk rs q → a.v.ownBlock ≠ some q) (hbl : ∀ q, Blk rs q → b.v.ownBlock ≠ some q)
    (han : ∀ q, a.v.ownBlock = some q → w.heap.size ≤ q) (hbn : ∀ q, b.v.ownBlock = some q → w.heap.size ≤ q) (hna : a.n ≤ 4194304) (hnb : b.n ≤ 4194304)
    (hown : W'.ownsRow 0 22 1 rv' (rs.length + 2) (rs.map RL.v ++ [a.v, b.v])) (hk : Kept (fun q => rv.ownBlock = some q) W W') (hat : rv'.ownBlock = rv.ownBlock ∨ ∀ q, rv'.ownBlock = some q → W.heap.size ≤ q) : OwnI w W' bv rv' bs (rs ++ [a, b]) :=
  ⟨h.kept.step hk (fun q hq e => by have := h.rn q e; omega),
   h.b.kept hk (fun q hq e => own_apart h.r.row h.b.row (by decide) e hq) (fun q ⟨i, hi, hq⟩ e => own_apart h.r.row (h.b.own i hi) (by decide) e hq), h.r.push2 (by decide) ha hb hab hal hbl hown hk hat,
   h.bn, fun q hq => by
     rcases hat with e | e
     · rw [e] at hq; exact h.rn q hq
     · have := e q hq; have := h.kept.size; omega, h.bb, fun q hq => by
     rcases blk_app hq with hq | hq | hq
     · exact h.rb q hq
     · exact han q hq
     · exact hbn q hq, h.bl, len_app h.rl hna hnb, h.b0, fun e => by simp at e⟩

theorem xor_range (a b : Int) (h1 : 0 ≤ a) (h2 : a < 256) (h3 : 0 ≤ b) (h4 : b < 256) : 0 ≤ bits .xor .u8 a b ∧ bits .xor .u8 a b < 256 := by
  rw [u8_xor a b h1 h2 h3 h4]
  have : a.toNat ^^^ b.toNat < 2 ^ 8 := Nat.xor_lt_two_pow (by omega) (by omega)
  omega
end Go.Proofs.YtcpkbajmilkhpabGreatDoor

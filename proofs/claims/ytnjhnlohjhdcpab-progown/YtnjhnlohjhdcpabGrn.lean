/-
  Rows that were handed out, which lie in no row of their own.
-/
import Derived.Test.YtnjhnlohjhdcpabGrw
namespace Go.Proofs.Ytnjhnlohjhdcpab
open Go.RowKit
set_option linter.unusedVariables false
set_option linter.unusedSimpArgs false

/-- Rows of elements of type e, of s cells each, all apart. -/
structure RLn (e s : Nat) (w : World) (ls : List RL) : Prop where
  own : ∀ i, i < ls.length → w.ownsRow 0 e s (rlAt ls i).v (rlAt ls i).n (rlAt ls i).xs
  apart : ∀ i j, i < j → j < ls.length → ∀ q, (rlAt ls i).v.ownBlock = some q → (rlAt ls j).v.ownBlock ≠ some q
section
variable {e et s : Nat} {mk an : Nat → Nat → List Value} {T : Nat → Prop}
theorem RLs.bare {w : World} {lv : Value} {ls : List RL} (h : RLs e et s w lv ls) : RLn e s w ls := ⟨h.own, h.apart⟩
theorem RLn.olt {w : World} {ls : List RL} (h : RLn e s w ls) {i : Nat} (hi : i < ls.length) : ∀ q, (rlAt ls i).v.ownBlock = some q → q < w.heap.size := fun q hq => (World.ownsRow.lt (h.own i hi) q hq).2
theorem RLn.same {w w' : World} {ls : List RL} (h : RLn e s w ls) (hk : Kept (fun _ => False) w w') : RLn e s w' ls := ⟨fun i hi => hk.ownsRow (h.own i hi) (fun _ _ f => f), h.apart⟩
theorem RLn.kept {w w' : World} {ls : List RL} {S : Nat → Prop} (h : RLn e s w ls) (hk : Kept S w w') (h2 : ∀ q, Blk ls q → ¬ S q) : RLn e s w' ls := ⟨fun i hi => hk.ownsRow (h.own i hi) (fun q hq => h2 q ⟨i, hi, hq⟩), h.apart⟩
/-- While rows are written full. -/
structure FilN (T : Nat → Prop) (e s : Nat) (mk : Nat → Nat → List Value) (w wr : World) (ls : List RL) (i j : Nat) : Prop where
  own : ∀ k, k < ls.length → wr.ownsRow 0 e s (rlAt ls k).v (rlAt ls k).n (cAt mk s ls i j k)
  kept : Kept T w wr
theorem FilN.start {w : World} {ls : List RL} (h : RLn e s w ls) : FilN T e s mk w w ls 0 0 :=
  ⟨fun k hk => by rw [cAt_zero]; exact h.own k hk, Kept.refl _ _⟩
theorem FilN.next {w wr : World} {ls : List RL} {i : Nat} (hb : RLn e s w ls) (hi : i < ls.length) (h : FilN T e s mk w wr ls i (rlAt ls i).n) : FilN T e s mk w wr ls (i + 1) 0 :=
  ⟨fun k hk => by rw [← cAt_next ls i k (hb.own i hi).1]; exact h.own k hk, h.kept⟩
theorem FilN.step {w wr w' : World} {ls : List RL} {i j : Nat} (hT : ∀ q, Blk ls q → T q) (hb : RLn e s w ls) (h : FilN T e s mk w wr ls i j) (hi : i < ls.length)
    (hown : w'.ownsRow 0 e s (rlAt ls i).v (rlAt ls i).n (cAt mk s ls i (j + 1) i)) (hk : Kept (fun q => (rlAt ls i).v.ownBlock = some q) wr w') : FilN T e s mk w w' ls i (j + 1) := by
  refine ⟨fun k hk' => ?_, h.kept.step hk (fun q _ e => hT q ⟨i, hi, e⟩)⟩
  by_cases e : k = i
  · subst e; exact hown
  · rw [cAt_other ls i (j + 1) j k e]
    exact hk.ownsRow (h.own k hk') (fun q hq eq => e (apart_of hb.apart hk' hi hq eq))
theorem FilN.same {w wr w' : World} {ls : List RL} {i j : Nat} (h : FilN T e s mk w wr ls i j) (hk : Kept (fun _ => False) wr w') : FilN T e s mk w w' ls i j :=
  ⟨fun k hk' => hk.ownsRow (h.own k hk') (fun _ _ f => f), h.kept.step hk (fun _ _ f => f.elim)⟩
theorem FilN.full {w wr : World} {ls : List RL} (h : FilN T e s mk w wr ls ls.length 0) {k : Nat} (hk : k < ls.length) : wr.ownsRow 0 e s (rlAt ls k).v (rlAt ls k).n (rowOf (mk k) (rlAt ls k).n) := by
  have := h.own k hk
  unfold cAt at this
  rw [if_pos hk] at this
  exact this
/-- The rows, written full, are rows again. -/
theorem FilN.rows {w wr : World} {ls : List RL} (hb : RLn e s w ls) (h : FilN T e s mk w wr ls ls.length 0) : RLn e s wr (fulls mk ls) := by
  refine ⟨fun i hi => ?_, fun i j hij hj q hq => ?_⟩
  · rw [fulls_len] at hi
    rw [fulls_at ls hi]
    exact h.full hi
  · rw [fulls_len] at hj
    rw [fulls_at ls (by omega)] at hq
    rw [fulls_at ls hj]
    exact hb.apart i j hij hj q hq
/-- While elements are put behind the rows: in turn k those below i have theirs. -/
structure MorN (T : Nat → Prop) (e et s : Nat) (mk an : Nat → Nat → List Value) (w wr : World) (mv : Value) (ls ms : List RL) (k i : Nat) : Prop where
  len : ms.length = ls.length
  bls : RLs e et s wr mv ms
  n : ∀ j, j < ls.length → (rlAt ms j).n = (rlAt ls j).n + if j < i then k + 1 else k
  xs : ∀ j, j < ls.length → (rlAt ms j).xs = rowOf (mk j) (rlAt ls j).n ++ rowOf (an j) (if j < i then k + 1 else k)
  src : ∀ j, j < ls.length → (rlAt ms j).v.ownBlock = (rlAt ls j).v.ownBlock ∨ ∀ q, (rlAt ms j).v.ownBlock = some q → w.heap.size ≤ q
  mnew : ∀ q, mv.ownBlock = some q → w.heap.size ≤ q
  cells : ∀ j, j < ls.length → ∀ g, (rlAt ls j).v.ownBlock = some g → ∀ c x, (rowOf (mk j) (rlAt ls j).n)[c]? = some x → wr.cell? ⟨g, c, none⟩ = some x
  kept : Kept T w wr
theorem MorN.start {w wr : World} {mv : Value} {ls : List RL} (hb : RLn e s w ls) (hr : RLs e et s wr mv (fulls mk ls)) (hk : Kept T w wr) (hm : ∀ q, mv.ownBlock = some q → w.heap.size ≤ q) : MorN T e et s mk an w wr mv ls (fulls mk ls) 0 0 := by
  refine ⟨fulls_len ls, hr, fun j hj => ?_, fun j hj => ?_, fun j hj => .inl ?_, hm, fun j hj g hg c x hx => ?_, hk⟩
  · rw [fulls_at ls hj]; rfl
  · rw [fulls_at ls hj, if_neg (by omega)]; simp [rowOf]
  · rw [fulls_at ls hj]
  · have h1 := hr.own j (by rw [fulls_len]; exact hj)
    rw [fulls_at ls hj] at h1
    have := World.ownsRow.cells h1 hg c x hx
    rw [Addr.add_lit, Nat.zero_add] at this
    exact this
theorem MorN.step {w wr w' : World} {gv' : Value} {gm N cm : Nat} {ls ms : List RL} {k i : Nat} (hT : ∀ q, Blk ls q → T q) (hb : RLn e s w ls) (h : MorN T e et s mk an w wr (.slice (some ⟨gm, 0, none⟩) N cm) ls ms k i) (hi : i < ls.length)
    (hown : w'.ownsRow 0 e s gv' ((rlAt ms i).n + 1) ((rlAt ms i).xs ++ an i k)) (hkp : Kept (fun q => (rlAt ms i).v.ownBlock = some q) wr w')
    (hat : gv'.ownBlock = (rlAt ms i).v.ownBlock ∨ ∀ q, gv'.ownBlock = some q → wr.heap.size ≤ q)
    (hold : ∀ g, (rlAt ms i).v.ownBlock = some g → ∀ j x, (rlAt ms i).xs[j]? = some x → w'.cell? ⟨g, j, none⟩ = some x) :
    MorN T e et s mk an w (w'.setCell ⟨gm, i, none⟩ gv') (.slice (some ⟨gm, 0, none⟩) N cm) ls (ms.set i ⟨gv', (rlAt ms i).n + 1, (rlAt ms i).xs ++ an i k⟩) k (i + 1) := by
  have hlen := h.len
  have him : i < ms.length := by omega
  have hs := h.kept.size
  have hs2 := hkp.size
  have hgm : w.heap.size ≤ gm := h.mnew gm rfl
  have hgl : gm < wr.heap.size := h.bls.lt gm rfl
  have hks := kept_set w' gm i gv'
  have hmo : ∀ j, j < ms.length → ∀ q, (rlAt ms j).v.ownBlock = some q → q ≠ gm := fun j hj q hq e => h.bls.off j hj q hq (by rw [e]; rfl)
  have hgo : ∀ q, gv'.ownBlock = some q → q ≠ gm := by
    intro q hq e
    rcases hat with e' | e'
    · rw [e'] at hq; exact hmo i him q hq e
    · have := e' q hq; omega
  have hN : N = ms.length := by
    rcases h.bls.row.2 with ⟨h1, _⟩ | ⟨g, cap, cur, h1, _⟩
    · cases h1
    · cases h1; rfl
  have hgls : ∀ q, q < w.heap.size → (rlAt ms i).v.ownBlock = some q → (rlAt ls i).v.ownBlock = some q := fun q hl hq => by
    rcases h.src i hi with e' | e'
    · rw [← e']; exact hq
    · have := e' q hq; omega
  have hrow1 : w'.ownsRow 0 et 1 (.slice (some ⟨gm, 0, none⟩) N cm) ms.length (ms.map RL.v) := hkp.ownsRow h.bls.row (fun q hq e => h.bls.off i him q e hq)
  refine ⟨by rw [List.length_set]; exact hlen, ⟨?_, fun j hj => ?_, fun j j2 hjj hj2 q hq => ?_, fun j hj q hq => ?_⟩, fun j hj => ?_, fun j hj => ?_, fun j hj => ?_, h.mnew, fun j hj g hg c x hx => ?_, ?_⟩
  · subst hN
    rw [List.length_set, List.map_set]
    exact (World.ownsRow.stored hrow1 i gv').1
  · rw [List.length_set] at hj
    rw [rl_set ms _ i j him]
    by_cases e : j = i
    · rw [if_pos e]
      exact hks.ownsRow hown (fun q hq e => hgo q hq e)
    · rw [if_neg e]
      exact hks.ownsRow (hkp.ownsRow (h.bls.own j hj) (fun q hq e' => e (apart_of h.bls.apart hj him hq e'))) (fun q hq e => hmo j hj q hq e)
  · rw [List.length_set] at hj2
    rw [rl_set ms _ i j him] at hq
    rw [rl_set ms _ i j2 him]
    by_cases e : j = i
    · rw [if_pos e] at hq
      rw [if_neg (by omega)]
      intro h2
      rcases hat with e' | e'
      · rw [e'] at hq
        have := apart_of h.bls.apart him hj2 hq h2
        omega
      · have h3 := e' q hq
        have h4 := h.bls.olt hj2 q h2
        omega
    · rw [if_neg e] at hq
      by_cases e2 : j2 = i
      · rw [if_pos e2]
        intro h2
        rcases hat with e' | e'
        · rw [e'] at h2
          have := apart_of h.bls.apart (by omega) him hq h2
          omega
        · have h3 := e' q h2
          have h4 := h.bls.olt (i := j) (by omega) q hq
          omega
      · rw [if_neg e2]
        exact h.bls.apart j j2 hjj hj2 q hq
  · rw [List.length_set] at hj
    rw [rl_set ms _ i j him] at hq
    intro h2
    have h3 : q = gm := (Option.some.inj h2).symm
    by_cases e : j = i
    · rw [if_pos e] at hq
      exact hgo q hq h3
    · rw [if_neg e] at hq
      exact hmo j hj q hq h3
  · rw [rl_set ms _ i j him]
    by_cases e : j = i
    · rw [if_pos e, if_pos (by omega)]
      have := h.n i hi
      rw [if_neg (by omega)] at this
      rw [e]
      show (rlAt ms i).n + 1 = _
      omega
    · rw [if_neg e, h.n j hj]
      by_cases e2 : j < i
      · rw [if_pos e2, if_pos (by omega)]
      · rw [if_neg e2, if_neg (by omega)]
  · rw [rl_set ms _ i j him]
    by_cases e : j = i
    · rw [if_pos e, if_pos (by omega), e]
      have := h.xs i hi
      rw [if_neg (by omega)] at this
      show (rlAt ms i).xs ++ an i k = _
      rw [this, rowOf_succ, List.append_assoc]
    · rw [if_neg e, h.xs j hj]
      by_cases e2 : j < i
      · rw [if_pos e2, if_pos (by omega)]
      · rw [if_neg e2, if_neg (by omega)]
  · rw [rl_set ms _ i j him]
    by_cases e : j = i
    · rw [if_pos e, e]
      rcases hat with e' | e'
      · rcases h.src i hi with e2 | e2
        · exact .inl (e'.trans e2)
        · exact .inr (fun q hq => e2 q (e' ▸ hq))
      · exact .inr (fun q hq => Nat.le_trans hs (e' q hq))
    · rw [if_neg e]
      exact h.src j hj
  · have hl := hb.olt hj g hg
    refine hks.cell ?_ (show ¬ g = gm by omega)
    by_cases e : (rlAt ms i).v.ownBlock = some g
    · have e2 := hgls g hl e
      have hij : j = i := apart_of hb.apart hj hi hg e2
      subst hij
      refine hold g e c x ?_
      rw [h.xs j hj, List.getElem?_append_left (List.getElem?_eq_some_iff.1 hx).1]
      exact hx
    · exact hkp.cell (h.cells j hj g hg c x hx) e
  · exact (h.kept.step hkp (fun q hq e => hT q ⟨i, hi, hgls q hq e⟩)).setCell (.inl hgm) _

theorem MorN.turn {w wr : World} {mv : Value} {ls ms : List RL} {k i : Nat} (h : MorN T e et s mk an w wr mv ls ms k i) (hi : i = ls.length) : MorN T e et s mk an w wr mv ls ms (k + 1) 0 := by
  subst hi
  refine ⟨h.len, h.bls, fun j hj => ?_, fun j hj => ?_, h.src, h.mnew, h.cells, h.kept⟩
  · rw [h.n j hj, if_pos hj, if_neg (by omega)]
  · rw [h.xs j hj, if_pos hj, if_neg (by omega)]
theorem MorN.same {w wr w' : World} {mv : Value} {ls ms : List RL} {k i : Nat} (h : MorN T e et s mk an w wr mv ls ms k i) (hk : Kept (fun _ => False) wr w') : MorN T e et s mk an w w' mv ls ms k i :=
  ⟨h.len, h.bls.same hk, h.n, h.xs, h.src, h.mnew, fun j hj g hg c x hx => hk.cell (h.cells j hj g hg c x hx) (fun f => f), h.kept.step hk (fun _ _ f => f.elim)⟩
/-- The rows, written full, in a new row of slices. -/
theorem FilN.more {w wr w' : World} {mv : Value} {ls : List RL} (hb : RLn e s w ls) (h : FilN T e s mk w wr ls ls.length 0) (hk : Kept (fun _ => False) wr w') (hm : w'.ownsRow wr.heap.size et 1 mv ls.length (ls.map RL.v)) : MorN T e et s mk an w w' mv ls (fulls mk ls) 0 0 := by
  have hs := h.kept.size
  have hnew : ∀ q, mv.ownBlock = some q → wr.heap.size ≤ q := fun q hq => (hm.lt q hq).1
  have hR := (h.rows hb).same hk
  refine MorN.start hb ⟨by rw [fulls_len, fulls_v]; exact own_mono hm (Nat.zero_le _), hR.own, hR.apart, fun i hi q hq he => ?_⟩ (h.kept.step hk (fun _ _ f => f.elim)) (fun q hq => Nat.le_trans hs (hnew q hq))
  have h1 := (h.rows hb).olt hi q hq
  have h2 := hnew q he
  omega
theorem FilN.other {S : Nat → Prop} {w wr w' : World} {ls : List RL} {i j : Nat} (h : FilN T e s mk w wr ls i j) (hk : Kept S wr w') (h2 : ∀ q, Blk ls q → ¬ S q) (h4 : ∀ q, q < w.heap.size → S q → T q) : FilN T e s mk w w' ls i j :=
  ⟨fun k hk' => hk.ownsRow (h.own k hk') (fun q hq => h2 q ⟨k, hk', hq⟩), h.kept.step hk h4⟩
theorem MorN.other {S : Nat → Prop} {w wr w' : World} {mv : Value} {ls ms : List RL} {k i : Nat} (h : MorN T e et s mk an w wr mv ls ms k i) (hk : Kept S wr w') (h1 : ∀ q, mv.ownBlock = some q → ¬ S q) (h2 : ∀ q, Blk ms q → ¬ S q) (h3 : ∀ q, Blk ls q → ¬ S q) (h4 : ∀ q, q < w.heap.size → S q → T q) : MorN T e et s mk an w w' mv ls ms k i :=
  ⟨h.len, h.bls.kept hk h1 h2, h.n, h.xs, h.src, h.mnew, fun j hj g hg c x hx => hk.cell (h.cells j hj g hg c x hx) (h3 g ⟨j, hj, hg⟩), h.kept.step hk h4⟩
/-- Blocks of rows that were put behind: old ones, or new ones. -/
theorem MorN.blk {w wr : World} {mv : Value} {ls ms : List RL} {k i : Nat} (h : MorN T e et s mk an w wr mv ls ms k i) {q : Nat} (hq : Blk ms q) : Blk ls q ∨ w.heap.size ≤ q := by
  obtain ⟨j, hj, e1⟩ := hq
  rw [h.len] at hj
  rcases h.src j hj with e2 | e2
  · exact .inl ⟨j, hj, by rw [← e2]; exact e1⟩
  · exact .inr (e2 q e1)
end
end Go.Proofs.Ytnjhnlohjhdcpab

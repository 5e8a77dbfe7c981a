/-
 Two Worlds apart; twins.
-/
import Derived.Test.YtjdbmjkidljhpaaGreatDoorTMq
import Derived.Test.YtjdbmjkidljhpaaGreatDoorTRtw
namespace Go.Proofs.YtjdbmjkidljhpaaGreatDoor
open Go.RowKit
set_option linter.unusedVariables false
set_option linter.unusedSimpArgs false
set_option maxRecDepth 100000
/-- Two Worlds' own blocks, and their blobs' blocks, lie apart. -/
structure FarW (OA BA OB BB : Nat → Prop) : Prop where
 own : ∀ q, OA q → ¬ OB q
 ba : ∀ q, BA q → ¬ OB q
 bb : ∀ q, BB q → ¬ OA q
/-- A step of the one leaves the other as it is, and both apart. -/
theorem Wd.far {w w' : World} {lo k n g s : Nat} {mv : Value} {σ : Sg} {r : Nat} {lv : Value} {ρ : Rg} {iv : Value} {m : Nat} {k2 n2 g2 s2 : Nat} {mv2 : Value} {σ2 : Sg} {r2 : Nat} {lv2 : Value} {ρ2 : Rg} {iv2 : Value} {m2 : Nat} {n' : Nat} (hA : Wd w lo k n g s mv σ r lv ρ iv m) (hB : Wd w lo k2 n2 g2 s2 mv2 σ2 r2 lv2 ρ2 iv2 m2) (hf : FarW (OwnW g s mv r lv iv) (Blo σ ρ) (OwnW g2 s2 mv2 r2 lv2 iv2) (Blo σ2 ρ2)) (ht : WdTo w w' lo k n' g s mv σ r lv ρ iv) :
  Wd w' lo k2 n2 g2 s2 mv2 σ2 r2 lv2 ρ2 iv2 m2 ∧ ∃ s' mv' σ' lv' ρ' iv' m', Wd w' lo k n' g s' mv' σ' r lv' ρ' iv' m' ∧ FarW (OwnW g s' mv' r lv' iv') (Blo σ' ρ') (OwnW g2 s2 mv2 r2 lv2 iv2) (Blo σ2 ρ2) ∧ Kept (OwnW g s mv r lv iv) w w' := by
 obtain ⟨s', mv', σ', lv', ρ', iv', m', h1, hk, ho, hb⟩ := ht
 refine ⟨hB.kept hk (fun q hq ha => hf.own q ha hq) (fun q hq => hf.bb q hq) (fun e => ?_), s', mv', σ', lv', ρ', iv', m', h1, ⟨fun q hq h2 => ?_, fun q hq h2 => ?_, fun q hq h2 => ?_⟩, hk⟩
 ·have := hA.base 0 e
  have := hA.two.lo0
  omega
 ·rcases ho q hq with h | h
  ·exact hf.own q h h2
  ·have := hB.olt q h2; omega
 ·rcases hb q hq with h | h
  ·exact hf.ba q h h2
  ·have := hB.olt q h2; omega
 ·rcases ho q h2 with h | h
  ·exact hf.bb q hq h
  ·have := hB.two.blt q hq; omega
/-! Lists of blobs with the same in them -/
theorem SameL.cons {a b : Bl} {l m : List Bl} (h : SameL (a :: l) (b :: m)) : (a.d = b.d ∧ a.xs = b.xs ∧ a.st = b.st) ∧ SameL l m := by
 unfold SameL at h
 rw [List.map_cons, List.map_cons] at h
 injection h with h1 h2
 injection h1 with h3 h4
 injection h4 with h5 h6
 exact ⟨⟨h3, h5, h6⟩, h2⟩
theorem SameL.len {l m : List Bl} (h : SameL l m) : l.length = m.length := by
 have := congrArg List.length h
 simpa using this
theorem SameL.find : ∀ {l m : List Bl}, SameL l m → ∀ d, (findB l d).map (fun b => (b.xs, b.st)) = (findB m d).map (fun b => (b.xs, b.st))
 | [], [], _, _ => rfl
 | [], _ :: _, h, _ => by have := h.len; simp at this
 | _ :: _, [], h, _ => by have := h.len; simp at this
 | a :: l, b :: m, h, d => by
  obtain ⟨⟨h1, h2, h3⟩, h4⟩ := h.cons
  have ih := SameL.find h4 d
  unfold findB
  rw [h1]
  split
  ·exact ih
  ·split
   ·show some (a.xs, a.st) = some (b.xs, b.st)
    rw [h2, h3]
   ·rfl
theorem SameL.tot : ∀ {l m : List Bl}, SameL l m → totB l = totB m
 | [], [], _ => rfl
 | [], _ :: _, h => by have := h.len; simp at this
 | _ :: _, [], h => by have := h.len; simp at this
 | a :: l, b :: m, h => by
  obtain ⟨⟨h1, h2, h3⟩, h4⟩ := h.cons
  unfold totB
  rw [h2, SameL.tot h4]
theorem SameL.ds {l m : List Bl} (h : SameL l m) : l.map Bl.d = m.map Bl.d := by
 have := congrArg (List.map Prod.fst) h
 rw [List.map_map, List.map_map] at this
 exact this
/-- The twin of the document's Store is a Store. -/
theorem TwR.rst {w w' : World} {v : Value} {ρ : Rg} {cp : List Bl} {j : Nat} (h : TwR w w' j v ρ cp) (hj : ρ.l.length ≤ j) (hf : ρ.l.length ≤ 1000000) : Rst w' w.heap.size v { ρ with l := cp } ∧ SameL cp ρ.l := by
 have hs : SameL cp ρ.l := by
  have := h.same
  rw [List.take_of_length_le hj] at this
  exact this
 refine ⟨⟨h.blk, own_lo h.row, h.ok, fun b hb h0 q hq => ?_, by show cp.length ≤ _; rw [hs.len]; exact hf⟩, hs⟩
 obtain ⟨h1, cs, h2⟩ := h.by_ b hb h0 q hq
 refine ⟨by omega, fun e => ?_⟩
 obtain ⟨cur, h3⟩ := row_typ h.row e
 rw [h3] at h2
 injection h2 with h2
 injection h2 with _ h2 _
 exact absurd h2 (by decide)
end Go.Proofs.YtjdbmjkidljhpaaGreatDoor

/-
 What CasAlls holds between its turns and between its rounds.
-/
import Derived.Test.YtjdbmjkidljhpaaGreatDoorTSnp
import Derived.Test.YtjdbmjkidljhpaaGreatDoorTMrk
namespace Go.Proofs.YtjdbmjkidljhpaaGreatDoor
open Go.RowKit
set_option linter.unusedVariables false
set_option linter.unusedSimpArgs false
set_option maxRecDepth 100000
def P2s (W w5 w10 : World) (b11 : Nat) (Z : Nat → Prop) (q : Nat) : Prop := q < W.heap.size + 3 ∨ q = b11 ∨ (w5.heap.size ≤ q ∧ q < w10.heap.size) ∨ Z q
def X2s (W w5 : World) (b11 q : Nat) : Prop := q < W.heap.size + 3 ∨ q = b11 ∨ w5.heap.size ≤ q
theorem al2_of {W w5 w10 : World} {lo k n g s : Nat} {mv : Value} {σ : Sg} {r : Nat} {lv : Value} {ρ : Rg} {iv : Value} {mm b11 : Nat} {Z : Nat → Prop} (h : Wd w5 lo k n g s mv σ r lv ρ iv mm) (hP : ∀ q, (q < W.heap.size + 3 ∨ q = b11) → ¬ OwnW g s mv r lv iv q) (hX : ∀ q, (q < W.heap.size + 3 ∨ q = b11) → (q < W.heap.size + 3 ∨ q = b11) → ¬ Blo σ ρ q) (hk : Kept (fun _ => False) w5 w10) (hZ : ∀ q, Z q → (w5.heap.size ≤ q ∧ q < w10.heap.size) ∨ Blo σ ρ q) :
  AlS (P2s W w5 w10 b11 Z) (X2s W w5 b11) lo w10 k n g r := by
 have hs := hk.size
 refine ⟨s, mv, σ, lv, ρ, iv, mm, h.same hk, fun q hq ho => ?_, fun q hx hq hb => ?_⟩
 ·have hlt := h.olt q ho
  rcases hq with hq | hq | hq | hq
  ·exact (hP q (.inl hq)) ho
  ·exact (hP q (.inr hq)) ho
  ·omega
  ·rcases hZ q hq with hq | hq
   ·omega
   ·exact h.bo q hq ho
 ·have hlt := h.two.blt q hb
  rcases hx with hx | hx | hx
  ·exact hX q (.inl hx) (.inl hx) hb
  ·exact hX q (.inr hx) (.inr hx) hb
  ·omega
theorem AlS.addFrm {P X : Nat → Prop} {lo k n g r D : Nat} {w : World} {o : Obj} (h : AlS P X lo w k n g r) (hD : w.heap[D]? = some o) (ho : Frm o) : AlS (fun q => P q ∨ q = D) X lo w k n g r := by
 obtain ⟨s, mv, σ, lv, ρ, iv, m, h1, h2, h3⟩ := h
 obtain ⟨h4, h5⟩ := h1.frm hD ho
 refine ⟨s, mv, σ, lv, ρ, iv, m, h1, fun q hq => ?_, fun q hx hq hb => ?_⟩
 ·rcases hq with hq | rfl
  ·exact h2 q hq
  ·exact h4
 ·rcases hq with hq | rfl
  ·exact h3 q hx hq hb
  ·exact h5 hb
/-- Between the turns. -/
structure Al2 (P2 X2 : Nat → Prop) (lo : Nat) (w10 w : World) (k g r tn b16 : Nat) (Ds : List Nat) : Prop where
 al : AlS (fun q => P2 q ∨ q = b16 ∨ q ∈ Ds) X2 lo w k (600 + 80 * tn) g r
 kp : Kept (fun q => ¬ P2 q) w10 w
 bx : w.heap[b16]? = some (.cells #[.int .i64 (tn : Int)] 3 (0, 0))
 nd : Ds.Nodup
 ln : Ds.length = tn
 dd : ∀ D ∈ Ds, w.heap[D]? = some (.deferred (some []))
 hi : ∀ D ∈ Ds, w10.heap.size ≤ D
/-- Between the rounds of a turn. -/
structure Al3 (P2 X2 : Nat → Prop) (lo : Nat) (w11 A : World) (k g r n0 b16 b17 : Nat) (Ds : List Nat) (nn : Nat) : Prop where
 al : AlS (fun q => P2 q ∨ q = b16 ∨ q ∈ Ds ∨ q = b17 ∨ (w11.heap.size ≤ q ∧ q < w11.heap.size + 5)) X2 lo A k (n0 + 2 * min nn 40) g r
 kp : Kept (fun q => ¬ (P2 q ∨ q = b16 ∨ q ∈ Ds)) w11 A
 bx : A.heap[b17]? = some (.cells #[.int .i64 (nn : Int)] 3 (0, 0))
theorem Al3.frm {P2 X2 : Nat → Prop} {lo : Nat} {w11 A C : World} {k g r n0 b16 b17 : Nat} {Ds : List Nat} {nn : Nat} {row : Option Nat} (h : Al3 P2 X2 lo w11 A k g r n0 b16 b17 Ds nn) (h0 : 0 < w11.heap.size) (hb : b17 < w11.heap.size) (hg : A.grownBy C row) (hr : ∀ q, row = some q → w11.heap.size ≤ q ∧ ∃ o : Obj, A.heap[q]? = some o ∧ Frm o) : Al3 P2 X2 lo w11 C k g r n0 b16 b17 Ds nn := by
 have hk : Kept (fun q => row = some q) A C := ⟨hg.os, hg.tape, hg.output, hg.size, fun q hq hn => hg.block q hq (fun e => hn e.symm)⟩
 refine ⟨h.al.frm hg (fun q e => ⟨by have := (hr q e).1; omega, (hr q e).2⟩), h.kp.step hk (fun q hq e => by have := (hr q e).1; omega), (hk.block b17 (heap_lt h.bx) (fun e => by have := (hr b17 e).1; omega)).trans h.bx⟩
theorem Al3.grow {P2 X2 : Nat → Prop} {lo : Nat} {w11 A C : World} {k g r n0 b16 b17 : Nat} {Ds : List Nat} {nn : Nat} (h : Al3 P2 X2 lo w11 A k g r n0 b16 b17 Ds nn) (hk : Kept (fun _ => False) A C) : Al3 P2 X2 lo w11 C k g r n0 b16 b17 Ds nn :=
 ⟨h.al.grow hk, h.kp.trans (hk.mono (fun _ _ f => f.elim)), (hk.block b17 (heap_lt h.bx) (fun f => f)).trans h.bx⟩
end Go.Proofs.YtjdbmjkidljhpaaGreatDoor

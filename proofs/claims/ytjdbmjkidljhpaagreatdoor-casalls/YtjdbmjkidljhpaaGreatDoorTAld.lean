/-
 What a round of CasAlls sees.
-/
import Derived.Test.YtjdbmjkidljhpaaGreatDoorTAlc
namespace Go.Proofs.YtjdbmjkidljhpaaGreatDoor
open Go.RowKit
set_option linter.unusedVariables false
set_option linter.unusedSimpArgs false
set_option maxRecDepth 100000
theorem sees {w9 U A' : World} {Z Pw : Nat → Prop} {es : List En} {ds : List Dg} {B0 : Nat} {wv : Value} {m : Nat} (hS : Snap w9 Z Pw es ds B0 wv m) (hK : KeepsB Pw w9 U) {pre : List (Eb es)} {x : Eb es} (hc : Cb es ds pre x A' U) :
  ∃ gl c bo bc ax cx, wv = .slice (some ⟨gl, 0, none⟩) m c ∧ x.1.2 = .slice ax x.1.1.1.xs.length cx ∧ (∀ w', Kept (fun _ => False) U w' → w'.rangeAt gl (pre.length * 34) (x.1.1.1.k.map (Value.int .u8)) ∧ w'.cell? ⟨gl, pre.length * 34 + 32, none⟩ = some (.slice bo x.1.1.1.xs.length bc)) ∧
   (∀ w', Kept (fun _ => False) U w' → Calls Tryz.prog 12 #[.slice ax x.1.1.1.xs.length cx, .slice bo x.1.1.1.xs.length bc] w' fun e w'' => e = .returned (.bool true) ∧ Kept (fun _ => False) w' w'') ∧ x.1.1.1.xs.length ≤ 1048576 := by
 obtain ⟨hown, dd, hdd, hdk⟩ := hc
 obtain ⟨ax, cx, hx⟩ := x.2
 obtain ⟨gl, c, bo, bc, hwv, hra, hcb, hbin, hxl⟩ := hS.at_ U hK pre.length dd x.1.1.1 x.1.1.2 hdd hdk
 have hb1 := (own_bin hown).1
 rw [hx] at hb1
 refine ⟨gl, c, bo, bc, ax, cx, hwv, hx, fun w' hw => ⟨fun j u hj => hw.cell (hra j u hj) (fun f => f), hw.cell hcb (fun f => f)⟩, fun w' hw => ?_, hxl⟩
 have := same_any _ _ _ _ w' (hb1.kept2 hw (fun _ _ _ f => f)) (hbin.kept2 hw (fun _ _ _ f => f)) (by unfold maxLen; omega)
 rw [decide_eq_true rfl] at this
 exact this
/-- A row of bytes of one's own, its block. -/
theorem own_gb {w : World} {B : Nat} {ax : Option Addr} {cx : Nat} {xs : List Int} (h : w.ownsRow B 5 1 (.slice ax xs.length cx) xs.length (xs.map (Value.int .u8))) (hB : B ≤ w.heap.size) :
  ∃ gb, B ≤ gb ∧ (∀ q L, w.heap[q]? = some (.loop L) → q ≠ gb) ∧ (xs.length ≠ 0 → ax = some ⟨gb, 0, none⟩ ∧ ∃ cur, w.heap[gb]? = some (.cells cur 5 (0, 0)) ∧ ∀ i, i < xs.length → ∃ y, cur[i]? = some (.int .u8 y)) := by
 rcases h.2 with ⟨e, h0⟩ | ⟨g, cap, cur, e, hb, hg, hc⟩
 ·refine ⟨w.heap.size, hB, fun q L hq e => ?_, fun hn => absurd h0 hn⟩
  have := heap_lt hq
  omega
 ·injection e with e1 e2 e3
  refine ⟨g, hb, fun q L hq e => ?_, fun hn => ⟨e1, cur, hg, fun i hi => ?_⟩⟩
  ·rw [e, hg] at hq
   cases hq
  ·obtain ⟨ao, c, hv, _, h1⟩ := (own_bin h).1
   injection hv with v1 v2 v3
   rcases h1 with h1 | ⟨b, o, h2, h3⟩
   ·rw [h1] at hi; cases hi
   ·have h4 := h3 i hi
    rw [← v1, e1] at h2
    injection h2 with h2
    injection h2 with h5 h6
    rw [← h5, ← h6, Nat.zero_add, cell_block _ _ _ _ _ _ hg] at h4
    exact ⟨_, h4⟩
/-- While a row's bytes are turned. -/
structure Bb (w5 w2 : World) (gb xl : Nat) : Prop where
 kp : Kept (fun q => q = gb) w5 w2
 rw : xl ≠ 0 → ∃ cur, w2.heap[gb]? = some (.cells cur 5 (0, 0)) ∧ ∀ i, i < xl → ∃ y, cur[i]? = some (.int .u8 y)
theorem Bb.set {w5 w2 : World} {gb xl : Nat} (h : Bb w5 w2 gb xl) (j : Nat) (z : Int) (hj : j < xl) : Bb w5 (w2.setCell ⟨gb, j, none⟩ (.int .u8 z)) gb xl := by
 refine ⟨Kept.setCell (S := fun q => q = gb) (p := ⟨gb, j, none⟩) h.kp (.inr rfl) _, fun hn => ?_⟩
 obtain ⟨cur, h1, h2⟩ := h.rw hn
 refine ⟨_, set_block w2 _ _ _ _ _ h1 _, fun i hi => ?_⟩
 obtain ⟨y, hy⟩ := h2 i hi
 have hl : i < cur.size := (Array.getElem?_eq_some_iff.1 hy).1
 by_cases e : j = i
 ·subst e
  exact ⟨z, by rw [Array.getElem?_setIfInBounds_self_of_lt hl]⟩
 ·exact ⟨y, by rw [Array.getElem?_setIfInBounds_ne e]; exact hy⟩
/-- What a round does ahead of its step leaves all as it is. -/
theorem Al3.through {P2 X2 : Nat → Prop} {lo : Nat} {w11 A w5 wr w7 w8 : World} {k g r n0 b16 b17 : Nat} {Ds : List Nat} {nn gb : Nat} (h : Al3 P2 X2 lo w11 A k g r n0 b16 b17 Ds nn) (h5 : Kept (fun _ => False) A w5) (hgb : A.heap.size ≤ gb) (hr : Kept (fun q => q = gb) w5 wr) (h7 : Kept (fun _ => False) wr w7) (hs7 : w7.heap.size = wr.heap.size + 1) (h8 : Kept (fun q => q = wr.heap.size) w7 w8) (hb : b17 < w11.heap.size) (h0 : 0 < w11.heap.size) : Al3 P2 X2 lo w11 w8 k g r n0 b16 b17 Ds nn := by
 have s5 := h5.size
 have sr := hr.size
 have s7 := h7.size
 have sA := h.kp.size
 have alr := (h.al.add h5).kept hr (fun q e => by subst e; exact ⟨.inr hgb, .inr hgb⟩) (fun e => by omega)
 have al8 := (alr.add h7).kept h8 (fun q e => by subst e; exact ⟨.inr (Nat.le_refl _), .inr (Nat.le_refl _)⟩) (fun e => by omega)
 refine ⟨al8.sub (fun q hq => .inl (.inl hq)) (fun q hq => .inl (.inl hq)), (((h.kp.trans (h5.mono (fun _ _ f => f.elim))).step hr (fun q hq e => by omega)).trans (h7.mono (fun _ _ f => f.elim))).step h8 (fun q hq e => by omega), ?_⟩
 have b5 := (h5.block b17 (heap_lt h.bx) (fun f => f)).trans h.bx
 have br := (hr.block b17 (heap_lt b5) (fun e => by omega)).trans b5
 have b7 := (h7.block b17 (heap_lt br) (fun f => f)).trans br
 exact (h8.block b17 (heap_lt b7) (fun e => by have := heap_lt br; omega)).trans b7
/-- A step of the World in a round. -/
theorem Al3.step {P2 X2 : Nat → Prop} {lo : Nat} {w11 A : World} {k g r n0 b16 b17 : Nat} {Ds : List Nat} {nn : Nat} (h : Al3 P2 X2 lo w11 A k g r n0 b16 b17 Ds nn) (hlt : ∀ q, P2 q ∨ q = b16 ∨ q ∈ Ds ∨ q = b17 ∨ (w11.heap.size ≤ q ∧ q < w11.heap.size + 5) → q < A.heap.size) (hn : n0 ≤ 800000) (hnn : nn < 40) (t : Stp) (ht : t.Ok A) (hl : Low lo t) :
  Calls Tryz.prog 6 #[.pointer (some ⟨g, 0, none⟩), .agg t.cells.toArray] A fun e w' => e = .returned (.bool true) ∧ AlS (fun q => P2 q ∨ q = b16 ∨ q ∈ Ds ∨ q = b17 ∨ (w11.heap.size ≤ q ∧ q < w11.heap.size + 5)) X2 lo w' k (n0 + 2 * min (nn + 1) 40) g r ∧ Kept (fun q => ¬ (P2 q ∨ q = b16 ∨ q ∈ Ds ∨ q = b17 ∨ (w11.heap.size ≤ q ∧ q < w11.heap.size + 5))) A w' := by
 refine (h.al.step hlt (by omega) t ht hl).mono ?_
 rintro e w' ⟨rfl, h1, h2⟩
 exact ⟨rfl, h1.more (by omega), h2⟩
/-- The number of rounds is one more. -/
theorem Al3.next {P2 X2 : Nat → Prop} {lo : Nat} {w11 A w' : World} {k g r n0 b16 b17 : Nat} {Ds : List Nat} {nn : Nat} (h : Al3 P2 X2 lo w11 A k g r n0 b16 b17 Ds nn) (hal : AlS (fun q => P2 q ∨ q = b16 ∨ q ∈ Ds ∨ q = b17 ∨ (w11.heap.size ≤ q ∧ q < w11.heap.size + 5)) X2 lo w' k (n0 + 2 * min (nn + 1) 40) g r) (hk : Kept (fun q => ¬ (P2 q ∨ q = b16 ∨ q ∈ Ds ∨ q = b17 ∨ (w11.heap.size ≤ q ∧ q < w11.heap.size + 5))) A w') (hX : X2 b17) (hb0 : b17 ≠ 0) (hP : ∀ q, P2 q ∨ q = b16 ∨ q ∈ Ds → q ≠ b17) : Al3 P2 X2 lo w11 (w'.setCell ⟨b17, 0, none⟩ (.int .i64 ((nn + 1 : Nat) : Int))) k g r n0 b16 b17 Ds (nn + 1) := by
 have hb := (hk.block b17 (heap_lt h.bx) (fun e => e (.inr (.inr (.inr (.inl rfl)))))).trans h.bx
 have hs : Kept (fun q => q = b17) w' (w'.setCell ⟨b17, 0, none⟩ (.int .i64 ((nn + 1 : Nat) : Int))) := Kept.setCell (S := fun q => q = b17) (p := ⟨b17, 0, none⟩) (Kept.refl _ _) (.inr rfl) _
 refine ⟨hal.kept hs (fun q e => by subst e; exact ⟨.inr (.inr (.inr (.inl rfl))), hX⟩) (fun e => hb0 e.symm), (h.kp.step hk (fun q hq e h9 => e (by rcases h9 with h9 | h9 | h9; exact .inl h9; exact .inr (.inl h9); exact .inr (.inr (.inl h9))))).step hs (fun q hq e h9 => hP q h9 e), set_block _ _ _ _ _ _ hb _⟩
end Go.Proofs.YtjdbmjkidljhpaaGreatDoor

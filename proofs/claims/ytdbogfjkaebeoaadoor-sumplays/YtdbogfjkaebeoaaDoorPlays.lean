/-
  What SumPlays holds: three Hashes, three lists.
-/
import Derived.Test.YtdbogfjkaebeoaaDoorPiece
import Derived.Test.YtdbogfjkaebeoaaDoorHeld
import Derived.Test.YtdbogfjkaebeoaaDoorRof
import Derived.Test.YtdbogfjkaebeoaaDoorMine
namespace Go.Proofs.YtdbogfjkaebeoaaDoor
open Go.RowKit
set_option linter.unusedVariables false
set_option linter.unusedSimpArgs false

def row3 (f : Nat → Value) : Array Value := #[f 0, f 1, f 2]
theorem row3_at (f : Nat → Value) (k : Nat) (h : k < 3) : (row3 f)[k]? = some (f k) := by
  match k, h with
  | 0, _ => rfl
  | 1, _ => rfl
  | 2, _ => rfl
def put3 {α : Type} (f : Nat → α) (k : Nat) (x : α) : Nat → α := fun i => if i = k then x else f i
theorem put3_at {α : Type} (f : Nat → α) (k : Nat) (x : α) : put3 f k x k = x := if_pos rfl
theorem put3_ne {α : Type} (f : Nat → α) (k i : Nat) (x : α) (h : i ≠ k) : put3 f k x i = f i := if_neg h
theorem row3_set (f : Nat → Value) (k : Nat) (h : k < 3) (x : Value) : (row3 f).setIfInBounds k x = row3 (put3 f k x) := by
  match k, h with
  | 0, _ => rfl
  | 1, _ => rfl
  | 2, _ => rfl
theorem row3_put {f : Nat → Value} {g : Nat → Value} (h : ∀ i, i < 3 → f i = g i) : row3 f = row3 g := by
  unfold row3
  rw [h 0 (by omega), h 1 (by omega), h 2 (by omega)]
theorem HashAt.keep {S : Nat → Prop} {w w' : World} {g : Nat} {xs : List Int} (h : HashAt w g xs) (hk : Kept S w w') (hs : ¬ S g) : HashAt w' g xs := by
  obtain ⟨q, hI, hO⟩ := h
  exact ⟨q, hI.kept hk hs, hO⟩
theorem HashAt.lt {w : World} {g : Nat} {xs : List Int} (h : HashAt w g xs) : g < w.heap.size := by
  obtain ⟨q, hI, hO⟩ := h
  exact heap_lt hI.1

def ptr3 (hf : Nat → Nat) : Nat → Value := fun i => .pointer (some ⟨hf i, 0, none⟩)
structure Plays (w wr : World) (B gl ga : Nat) (hf : Nat → Nat) (av : Nat → Value) (xf : Nat → List Int) : Prop where
  lrow : wr.heap[gl]? = some (.cells (row3 (ptr3 hf)) 39 (0, 0))
  arow : wr.heap[ga]? = some (.cells (row3 av) 40 (0, 0))
  hash : ∀ i, i < 3 → HashAt wr (hf i) (xf i)
  own : ∀ i, i < 3 → wr.ownsRow B 5 1 (av i) (xf i).length ((xf i).map (Value.int .u8))
  lo : ∀ i, i < 3 → B ≤ hf i
  hne : ∀ i j, i < 3 → j < 3 → i ≠ j → hf i ≠ hf j
  one : ∀ i j, i < 3 → j < 3 → i ≠ j → ∀ g, (av i).ownBlock = some g → (av j).ownBlock ≠ some g
  onh : ∀ i j, i < 3 → j < 3 → (av i).ownBlock ≠ some (hf j)
  kept : Kept (fun _ => False) w wr
  bnd : w.heap.size ≤ gl ∧ gl < ga ∧ ga < B ∧ B ≤ wr.heap.size

variable {w wr w' : World} {B gl ga : Nat} {hf : Nat → Nat} {av : Nat → Value} {xf : Nat → List Int}
theorem Plays.keep (h : Plays w wr B gl ga hf av xf) (hk : Kept (fun _ => False) wr w') : Plays w w' B gl ga hf av xf :=
  ⟨(hk.block _ (heap_lt h.lrow) (fun f => f)).trans h.lrow, (hk.block _ (heap_lt h.arow) (fun f => f)).trans h.arow, fun i hi => (h.hash i hi).keep hk (fun f => f), fun i hi => hk.ownsRow (h.own i hi) (fun _ _ f => f), h.lo, h.hne, h.one, h.onh, h.kept.trans hk, ⟨h.bnd.1, h.bnd.2.1, h.bnd.2.2.1, Nat.le_trans h.bnd.2.2.2 hk.size⟩⟩
theorem Plays.lcell (h : Plays w wr B gl ga hf av xf) {k : Nat} (hk : k < 3) : wr.cell? ⟨gl, k, none⟩ = some (.pointer (some ⟨hf k, 0, none⟩)) := by
  rw [cell_block _ _ _ _ _ _ h.lrow, row3_at _ _ hk]
  rfl
theorem Plays.acell (h : Plays w wr B gl ga hf av xf) {k : Nat} (hk : k < 3) : wr.cell? ⟨ga, k, none⟩ = some (av k) := by
  rw [cell_block _ _ _ _ _ _ h.arow, row3_at _ _ hk]
theorem Plays.lfree (h : Plays w wr B gl ga hf av xf) {k : Nat} : wr.frozen? ⟨gl, k, none⟩ = false := frozen_block _ _ _ _ _ h.lrow
theorem Plays.afree (h : Plays w wr B gl ga hf av xf) {k : Nat} : wr.frozen? ⟨ga, k, none⟩ = false := frozen_block _ _ _ _ _ h.arow
/-- One Hash is written. -/
theorem Plays.wrote (h : Plays w wr B gl ga hf av xf) {k : Nat} (hk : k < 3) {ys : List Int} (hH : HashAt w' (hf k) ys) (hw : Kept (fun j => j = hf k) wr w') (hl : ys.length = (xf k).length → ys = xf k → True) :
    w'.heap[gl]? = some (.cells (row3 (ptr3 hf)) 39 (0, 0)) ∧ w'.heap[ga]? = some (.cells (row3 av) 40 (0, 0)) ∧ (∀ i, i < 3 → HashAt w' (hf i) (if i = k then ys else xf i)) ∧ (∀ i, i < 3 → w'.ownsRow B 5 1 (av i) (xf i).length ((xf i).map (Value.int .u8))) ∧ Kept (fun _ => False) w w' ∧ B ≤ w'.heap.size := by
  have hb := h.bnd
  have hlo := h.lo k hk
  refine ⟨(hw.block _ (heap_lt h.lrow) (by omega)).trans h.lrow, (hw.block _ (heap_lt h.arow) (by omega)).trans h.arow, fun i hi => ?_, fun i hi => hw.ownsRow (h.own i hi) (fun g hg e => h.onh i k hi hk (by rw [hg, e])), h.kept.step hw (fun i hi e => by omega), Nat.le_trans hb.2.2.2 hw.size⟩
  by_cases e : i = k
  · subst e
    rw [if_pos rfl]
    exact hH
  · rw [if_neg e]
    exact (h.hash i hi).keep hw (h.hne i k hi hk e)
/-- One Hash and its list are others. -/
theorem Plays.renew {w0 : World} (h : Plays w wr B gl ga hf av xf) {k g : Nat} (hk : k < 3) {v : Value} {ys : List Int} (hw : Kept (fun j => j = hf k ∨ (av k).ownBlock = some j) wr w0) (hg : B ≤ g) (hgn : ∀ i, i < 3 → i ≠ k → g ≠ hf i ∧ (av i).ownBlock ≠ some g)
    (hH : HashAt w0 g ys) (hO : w0.ownsRow B 5 1 v ys.length (ys.map (Value.int .u8))) (hv : ∀ j, v.ownBlock = some j → j ≠ g ∧ ∀ i, i < 3 → i ≠ k → j ≠ hf i ∧ (av i).ownBlock ≠ some j)
    (hL : w'.heap[gl]? = some (.cells (row3 (put3 (ptr3 hf) k (.pointer (some ⟨g, 0, none⟩)))) 39 (0, 0))) (hA : w'.heap[ga]? = some (.cells (row3 (put3 av k v)) 40 (0, 0))) (hk' : Kept (fun j => j = gl ∨ j = ga) w0 w') :
    Plays w w' B gl ga (put3 hf k g) (put3 av k v) (put3 xf k ys) := by
  have hb := h.bnd
  have hlo := h.lo
  refine ⟨?_, hA, fun i hi => ?_, fun i hi => ?_, fun i hi => ?_, fun i j hi hj e => ?_, fun i j hi hj e g' hg' => ?_, fun i j hi hj => ?_, ?_, ?_⟩
  · rw [hL]
    congr 2
    refine row3_put (fun i hi => ?_)
    unfold ptr3 put3
    by_cases e : i = k
    · simp [e]
    · simp [e]
  · by_cases e : i = k
    · subst e
      rw [put3_at, put3_at]
      exact hH.keep hk' (by omega)
    · rw [put3_ne _ _ _ _ e, put3_ne _ _ _ _ e]
      have h1 := h.lo i hi
      exact ((h.hash i hi).keep hw (by
        rintro (e' | e')
        · exact h.hne i k hi hk e e'
        · exact h.onh k i hk hi e')).keep hk' (by omega)
  · by_cases e : i = k
    · subst e
      rw [put3_at, put3_at]
      exact hk'.ownsRow hO (fun g' hg' => by have := (hO.lt g' hg').1; omega)
    · rw [put3_ne _ _ _ _ e, put3_ne _ _ _ _ e]
      refine hk'.ownsRow (hw.ownsRow (h.own i hi) (fun g' hg' => ?_)) (fun g' hg' => by have := ((h.own i hi).lt g' hg').1; omega)
      rintro (e' | e')
      · exact h.onh i k hi hk (by rw [hg', e'])
      · exact h.one i k hi hk e g' hg' e'
  · by_cases e : i = k
    · subst e
      rw [put3_at]
      exact hg
    · rw [put3_ne _ _ _ _ e]
      exact h.lo i hi
  · by_cases ei : i = k
    · subst ei
      rw [put3_at, put3_ne _ _ _ _ (fun x => e x.symm)]
      exact (hgn j hj (fun x => e x.symm)).1
    · rw [put3_ne _ _ _ _ ei]
      by_cases ej : j = k
      · subst ej
        rw [put3_at]
        exact fun x => (hgn i hi ei).1 x.symm
      · rw [put3_ne _ _ _ _ ej]
        exact h.hne i j hi hj e
  · by_cases ei : i = k
    · subst ei
      rw [put3_at] at hg'
      rw [put3_ne _ _ _ _ (fun x => e x.symm)]
      exact ((hv g' hg').2 j hj (fun x => e x.symm)).2
    · rw [put3_ne _ _ _ _ ei] at hg'
      by_cases ej : j = k
      · subst ej
        rw [put3_at]
        exact fun x => ((hv g' x).2 i hi ei).2 hg'
      · rw [put3_ne _ _ _ _ ej]
        exact h.one i j hi hj e g' hg'
  · by_cases ei : i = k
    · subst ei
      rw [put3_at]
      by_cases ej : j = i
      · subst ej
        rw [put3_at]
        exact fun x => (hv g x).1 rfl
      · rw [put3_ne _ _ _ _ ej]
        exact fun x => ((hv _ x).2 j hj ej).1 rfl
    · rw [put3_ne _ _ _ _ ei]
      by_cases ej : j = k
      · subst ej
        rw [put3_at]
        exact (hgn i hi ei).2
      · rw [put3_ne _ _ _ _ ej]
        exact h.onh i j hi hj
  · refine (h.kept.step hw (fun i hi e => ?_)).step hk' (fun i hi e => by omega)
    rcases e with e | e
    · have := h.lo k hk
      omega
    · have := ((h.own k hk).lt i e).1
      omega
  · exact ⟨hb.1, hb.2.1, hb.2.2.1, Nat.le_trans (Nat.le_trans hb.2.2.2 hw.size) hk'.size⟩

set_option maxRecDepth 100000 in
set_option maxHeartbeats 1000000 in
theorem reset_any (g : Nat) (xs : List Int) (w : World) (H : HashAt w g xs) : Calls Tryd.prog 22 #[.pointer (some ⟨g, 0, none⟩)] w fun e w' => e = .returned (.tuple #[]) ∧ HashAt w' g [] ∧ Kept (fun k => k = g) w w' := by
  obtain ⟨h, hI, hO⟩ := H
  have hs51 : (Tryd.prog.info? 51).map (·.size) = some zero51.size := by rw [size51, zero51_size]
  have hos : h.cells.toArray.size = zero51.size := by rw [zero51_size, Hsh.size h hI.2.1]
  have h1 : zero51.all (·.oneCell') = true := Hsh.zero.one
  have hc := hI.len
  have HH : Hid (HashAt (w.setRow g zero51) g []) := zero_is (setRow_heap _ _ _ _ _ _ hI.1)
  have HK : Hid (Kept (fun k => k = g) w (w.setRow g zero51)) := kept_row w g zero51
  have hB := hI.1
  have hzv := zeroV51
  clear hI hO
  go_enter Tryd.func22, Tryd.ntmps22
  go_wp2_with (refine wpList_store_row rfl 51 _ _ rfl g zero51 rfl rfl 51 _ hB hs51 hos h1 ?_)
  go_end0
  exact ⟨rfl, HH.out, HK.out⟩
end Go.Proofs.YtdbogfjkaebeoaaDoor

/-
  A World and its twin.
-/
import Derived.Test.YtjdbmjkidljhpabGreatDoorWx
import Derived.Test.YtjdbmjkidljhpabGreatDoorWq
namespace Go.Proofs.YtjdbmjkidljhpabGreatDoor
open Go.RowKit
set_option linter.unusedVariables false
set_option linter.unusedSimpArgs false
set_option maxRecDepth 100000

/-- No blob's block is one of the World's own. -/
theorem Wd.bo {w : World} {lo k n g s : Nat} {mv : Value} {σ : Sg} {r : Nat} {lv : Value} {ρ : Rg} {iv : Value} {m : Nat} (h : Wd w lo k n g s mv σ r lv ρ iv m) : ∀ q, Blo σ ρ q → ¬ OwnW g s mv r lv iv q := fun q hb ho => by
  rcases ho with e | ho | ho
  · exact h.bg q hb e
  · exact h.two.boff q hb ho
  · exact h.api q hb ho
/-- A World of both twins. -/
theorem Wd.pair {w w1 w2 : World} {lo k n g s : Nat} {mv : Value} {σ : Sg} {r : Nat} {lv : Value} {ρ : Rg} {iv : Value} {m : Nat} (h : Wd w lo k n g s mv σ r lv ρ iv m) (hk1 : Kept (fun _ => False) w w1) {s' : Nat} {mv' : Value} (hst : Stor w1 s' mv' σ) (hs : w.heap.size ≤ s') (hm : ∀ q, mv' = .map (some q) → w.heap.size ≤ q) (hk2 : Kept (fun _ => False) w1 w2) {lv' : Value} {l' : List Bl} (hT : TwR w1 w2 ρ.l.length lv' ρ l') :
    Wd (w2.alloc (.cells (wcells s' w1.heap.size (.slice none 0 0)) 36)) lo k n w2.heap.size s' mv' σ w1.heap.size lv' { ρ with l := l' } (.slice none 0 0) 0 ∧ FarW (OwnW g s mv r lv iv) (Blo σ ρ) (OwnW w2.heap.size s' mv' w1.heap.size lv' (.slice none 0 0)) (Blo σ { ρ with l := l' }) := by
  obtain ⟨hr2, hsl⟩ := hT.rst (Nat.le_refl _) h.two.rs.few
  have hk3 : Kept (fun _ => False) w2 (w2.alloc (.cells (wcells s' w1.heap.size (.slice none 0 0)) 36)) := (Kept.refl _ _).alloc _
  have hs1 := hk1.size
  have hs2 := hk2.size
  have hg := heap_lt h.blk
  have hlo : lo ≤ w.heap.size := by have := h.gl.1; omega
  have hlv : ∀ q, lv'.ownBlock = some q → w1.heap.size < q := fun q hq => by have := (hT.row.lt q hq).1; omega
  have new : ∀ q, OwnW w2.heap.size s' mv' w1.heap.size lv' (.slice none 0 0) q → w.heap.size ≤ q := fun q hq => by
    rcases hq with rfl | ((rfl | hq) | (rfl | hq)) | hq
    · omega
    · exact hs
    · exact hm q hq
    · omega
    · have := hlv q hq; omega
    · cases hq
  have st3 := (hst.keptx hk2 (fun _ _ f => f) (fun _ _ _ _ _ f => f)).keptx hk3 (fun _ _ f => f) (fun _ _ _ _ _ f => f)
  refine ⟨⟨⟨st3, h.two.sane, hr2.same hk3, h.two.alk.sameL hsl, h.two.num, laid_kept h.two.laid ((hk1.trans hk2).trans hk3) (fun f => f), h.two.k1, fun e he h0 q hq e2 => ?_, fun q hq => ?_, h.two.lo0, ?_⟩, alloc_new _ _ rfl, .inl ⟨rfl, rfl⟩, by omega, ⟨by omega, fun q hq => (by cases hq)⟩, fun q hq e => (by cases e)⟩, ⟨fun q hq h2 => ?_, fun q hq h2 => ?_, fun q hq h2 => ?_⟩⟩
  · have h5 := h.two.blt q (.inl ⟨e, he, h0, hq⟩)
    have h6 := hlv q e2
    omega
  · have := new q (.inr (.inl hq)); omega
  · show l'.length ≤ n
    rw [hsl.len]
    exact h.two.cnt
  · have h5 := h.olt q hq
    have h6 := new q h2
    omega
  · have h5 := h.two.blt q hq
    have h6 := new q h2
    omega
  · rcases hq with ⟨e, he, h0, hq⟩ | ⟨b, hb, h0, hq⟩
    · exact h.bo q (.inl ⟨e, he, h0, hq⟩) h2
    · have h5 := (hT.by_ b hb h0 q hq).1
      have h6 := h.olt q h2
      omega
end Go.Proofs.YtjdbmjkidljhpabGreatDoor

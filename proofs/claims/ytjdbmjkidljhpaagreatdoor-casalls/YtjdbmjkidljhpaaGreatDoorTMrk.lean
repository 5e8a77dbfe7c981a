/-
 Marks of ranges among a function's deferred calls.
-/
import Derived.Test.YtjdbmjkidljhpaaGreatDoorTMa
import Derived.RangeFuncLeaves
import Derived.RangeFuncRecord
import Derived.ControlIn
namespace Go.Proofs.YtjdbmjkidljhpaaGreatDoor
open Go.RowKit
set_option linter.unusedVariables false
set_option linter.unusedSimpArgs false
/-- The mark of a range. -/
def mk (D : Nat) : Deferred := { target := .collected D, args := #[] }
/-- A world with these blocks shut. -/
def Shut (Ds : List Nat) (w w' : World) : Prop := w'.os = w.os ∧ w'.tape = w.tape ∧ w'.output = w.output ∧ w'.heap.size = w.heap.size ∧ ∀ q, q ∉ Ds → w'.heap[q]? = w.heap[q]?
theorem leaves_marks {F : Fence} {n : Nat} {P : Program} {fn : Func} {tmps : Array Value} {R : Ending → World → Prop} : ∀ (Ds : List Nat) (w : World), Ds.Nodup → (∀ D ∈ Ds, w.heap[D]? = some (.deferred (some []))) → (∀ w', Shut Ds w w' → LeavesIn F n P fn tmps R [] .returning w') → LeavesInM F n P fn tmps R (Ds.map mk) .returning w
 | [], w, _, _, h => h w ⟨rfl, rfl, rfl, rfl, fun _ _ => rfl⟩
 | D :: Ds, w, hn, hd, h => by
  obtain ⟨h1, h2⟩ := List.nodup_cons.1 hn
  have h3 := hd D (List.mem_cons_self ..)
  refine ⟨by simp, .inl ⟨D, _, rfl, run_takeDeferred h3, leaves_marks Ds _ h2 (fun E hE => ?_) (fun w' hw => h w' ?_)⟩⟩
  ·have e : E ≠ D := fun e => h1 (e ▸ hE)
   rw [World.putObj_heap_other e]
   exact hd E (List.mem_cons_of_mem _ hE)
  ·obtain ⟨a1, a2, a3, a4, a5⟩ := hw
   refine ⟨a1, a2, a3, by rw [a4]; simp [World.putObj], fun q hq => ?_⟩
   rw [a5 q (fun e => hq (List.mem_cons_of_mem _ e))]
   exact World.putObj_heap_other (fun e => hq (e ▸ List.mem_cons_self ..))
/-- Some slots of a frame with other values. -/
def setAll (t : Array Value) : List Nat → List Value → Array Value
 | i :: is, u :: us => setAll (t.setIfInBounds i u) is us
 | _, _ => t
/-- A loop of at most N rounds, whose rounds turn some slots and push a mark each. -/
theorem loop_sets {F : Fence} {n : Nat} {P : Program} {c : Code} {Q : Exit → Act → World → Prop} {tm : Array Value} {ds0 : List Deferred} {w : World} (N : Nat) (is : List Nat) (I : List Value → List Deferred → World → Prop)
  (us0 : List Value) (h0 : setAll tm is us0 = tm) (hi0 : I us0 ds0 w)
  (round : ∀ us ds w, I us ds w → c.wpIn F n P (Exit.then (fun a' w' => ∃ us' ds', a' = ⟨setAll tm is us', ds'⟩ ∧ I us' ds' w' ∧ ds'.length = ds.length + 1 ∧ ds.length < N) Q) ⟨setAll tm is us, ds⟩ w) : (Code.loop c).wpIn F n P Q ⟨tm, ds0⟩ w := by
 refine wpIn_loop (fun a w => ∃ us ds, a = ⟨setAll tm is us, ds⟩ ∧ I us ds w) (fun a w => N - a.defers.length) ⟨us0, ds0, by rw [h0], hi0⟩ ?_
 rintro a w ⟨us, ds, rfl, hi⟩
 refine Code.wpIn_mono (fun e a' w' hq => ?_) (round us ds w hi)
 cases e with
 | normal =>
  obtain ⟨us', ds', rfl, h1, h2, h3⟩ := hq
  exact ⟨⟨us', ds', rfl, h1⟩, by show N - ds'.length < N - ds.length; omega⟩
 | exit id => exact hq
 | goto l => exact hq
 | ret => exact hq
 | panic ch => exact hq
 | outgrown => exact hq
end Go.Proofs.YtjdbmjkidljhpaaGreatDoor

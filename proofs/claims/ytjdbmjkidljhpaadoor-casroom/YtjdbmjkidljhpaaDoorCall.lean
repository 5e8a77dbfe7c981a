/-
  Store.All of an empty Store, by contract.
-/
import Derived.Test.YtjdbmjkidljhpaaDoorCsteps
import Derived.RangeFuncNested
import Derived.RangeFuncBound
import Derived.RangeFuncCalls
import Derived.RangeFuncLeaves
import Derived.RangeFuncBox
import Derived.Shelf.Abstract
import Derived.Shelf.RegionOpen
import Derived.OwnWalkIn
import Derived.TacticsInMore
import Derived.LoopNIn
import Derived.LoopIn
import Derived.Sort.QuietIn
import Derived.WalkMore
import Derived.Laws.EntriesVeiled
namespace Go.Proofs.YtjdbmjkidljhpaaDoor
open Go.RowKit Go.Shelf
attribute [local go_sem] Oper.semAt_some
set_option linter.unusedVariables false
set_option linter.unusedSimpArgs false
set_option maxRecDepth 100000

theorem Kept.grow {w w' : World} (h : Kept (fun _ => False) w w') : w.grownBy w' none := ⟨h.os, h.tape, h.output, h.size, fun k hk _ => h.block k hk (fun e => e)⟩

theorem box_stay {B : Nat} {A C : World} {rw : Option Nat} {b : Nat} {t : TypeId} {v : Value} (hv : Boxed A b t v) (hg : A.grownBy C rw) (hr : ∀ r, rw = some r → B ≤ r ∧ ∃ o : Obj, A.heap[r]? = some o ∧ o.isCells = false) : Boxed C b t v :=
  hv.kept hg (fun e => by
    obtain ⟨_, o, ho, hc⟩ := hr b e.symm
    rw [show A.heap[b]? = _ from hv] at ho
    cases ho
    cases hc)

theorem next_none (W : World) (r : Nat) (t : TypeId) (hh : W.heap[r]? = some (.mapIter none 0 #[] 0)) : (Instr.next (.pointer (some ⟨r, 0, none⟩)) false t).run Tryd.prog W = .ok (.tuple #[.bool false]) W := by
  have hg : (getObj r).run Tryd.prog W = .ok (.mapIter none 0 #[] 0) W := by simp [getObj, Sem.run, hh]
  unfold Instr.next
  simp only [Sem.run_bind, hg, Result.andThen_ok]
  rfl

set_option maxHeartbeats 1000000 in
theorem keys_stops (n : Nat) (hn : 1 ≤ n) (Bn : Nat) (w : World) (hBn : Bn < w.heap.size) (hc : w.cell? ⟨Bn, 0, none⟩ = some (.map none)) :
    SeqStopsK Fence.wide n Tryd.prog 62 #[.pointer (some ⟨Bn, 0, none⟩)] (fun x : Empty => x.elim) (fun _ _ => True) (fun _ => True) (fun _ => True) 0 w := fun l J Jx W hW hJ hJx hY h0 => by
  have hc' : W.cell? ⟨Bn, 0, none⟩ = some (.map none) := (hW.cell (p := ⟨Bn, 0, none⟩) hBn).trans hc
  have q1 : ∀ W : World, (Instr.range 59 (.map none)).run Tryd.prog W = .ok (.pointer (some ⟨W.heap.size, 0, none⟩)) (W.alloc (.mapIter none 0 #[] 0)) := fun W => rfl
  have H0 : Hid (J [] (W.alloc (.mapIter none 0 #[] 0))) := hJ [] W _ none h0 (((Kept.refl (fun _ => False) W).alloc _).grow) (fun r e => by cases e)
  have q2 : ∀ t, (Instr.next (.pointer (some ⟨W.heap.size, 0, none⟩)) false t).run Tryd.prog (W.alloc (.mapIter none 0 #[] 0)) = .ok (.tuple #[.bool false]) (W.alloc (.mapIter none 0 #[] 0)) := fun t => by
    exact next_none _ _ t (alloc_new _ _ rfl)
  clear hW hJ hJx hY h0 hc
  refine callsIn_of_wp Tryd.func62 rfl trivial ?_ rfl
  simp only [Tryd.ntmps62, List.size_toArray, List.length_cons, List.length_nil, Nat.reduceAdd, Nat.reduceSub, Array.replicate_succ, Array.replicate_zero, List.push_toArray, List.append_toArray, List.nil_append, List.cons_append]
  gi_wp2
  gi_loopw [3] (fun _ wr => wr = W.alloc (.mapIter none 0 #[] 0)) (fun _ _ => 0)
  case atStart => rfl
  case round =>
    subst hrel
    gi_wp2
    go_end0
    exact ⟨⟨_, rfl⟩, .inl ⟨[], trivial, H0.out⟩⟩

set_option maxHeartbeats 1000000 in
theorem aseq_none (Bn : Nat) (w : World) (hBn : Bn < w.heap.size) (hc : w.cell? ⟨Bn, 0, none⟩ = some (.map none)) :
    Calls Tryd.prog 68 #[.slice none 0 0, .func (.func 62) #[] #[.pointer (some ⟨Bn, 0, none⟩)]] w fun e w' => e = .returned (.slice none 0 0) ∧ Kept (fun _ => False) w w' := by
  refine (callsIn_wide (n := 3)).1 ?_
  refine callsIn_of_wp_marks Tryd.func68 rfl trivial ?_ rfl
  simp only [Tryd.ntmps68, List.size_toArray, List.length_cons, List.length_nil, Nat.reduceAdd, Nat.reduceSub, Array.replicate_succ, Array.replicate_zero, List.push_toArray, List.append_toArray, List.nil_append, List.cons_append]
  gi_wp2
  have b0 := Boxed.new w 89 (.slice none 0 0)
  have hB0 := (Below.refl w.heap.size w).alloc (Nat.le_refl _) (.cells #[.slice none 0 0] 89)
  have hcc : (w.alloc (.cells #[.slice none 0 0] 89)).cell? ⟨Bn, 0, none⟩ = some (.map none) := ((Kept.refl (fun _ => False) w).alloc _).cell hc (fun f => f)
  obtain ⟨W0, hW0⟩ : ∃ W0, w.alloc (.cells #[.slice none 0 0] 89) = W0 := ⟨_, rfl⟩
  have hsz : W0.heap.size = w.heap.size + 1 := by rw [← hW0]; simp
  rw [hW0] at b0 hB0 hcc ⊢
  clear hW0
  refine wpIn_rangeFunc_ownG rfl (by omega) (gf := 62) (lb := #[.pointer (some ⟨Bn, 0, none⟩)]) rfl trivial (enters_of Tryd.func62 (by kernel_rfl) rfl)
    (keys_stops 2 (by omega) Bn W0 (by omega) hcc) (fun _ _ => trivial) (fun _ _ _ _ _ _ _ _ => trivial) (Below.refl _ _) (fun x => x.elim)
    (fun pre W => (w.heap.size + 1 ≤ W.heap.size ∧ Boxed W w.heap.size 89 (.slice none 0 0)) ∧ Below w.heap.size w W)
    (fun _ _ _ => False) ?hI ?hIx ?h0 (fun x => x.elim) (fun _ x => x.elim) (fun _ _ x => x.elim) ?done ?stop
  case hI =>
    rintro pre A C rw ⟨⟨hbs, hv⟩, hB⟩ hg hr
    exact ⟨⟨Nat.le_trans hbs hg.size, box_stay hv hg hr⟩, hB.grown hg hB.size (fun k e => by have := (hr k e).1; omega)⟩
  case hIx => exact fun _ _ _ _ _ h _ _ => h
  case h0 => exact ⟨⟨by omega, b0⟩, hB0⟩
  case done =>
    rintro D ys W hD hS ⟨⟨hbs, hv⟩, hB⟩ hK
    have hc := hv.cell
    have HB := hid_of hB
    have HK := hid_of hK
    clear hB hK
    gi_wp2
    refine ⟨by simp, .inl ⟨_, _, rfl, run_takeDeferred HK.out, ?_⟩⟩
    refine ⟨_, results_tmp rfl _ _ _, rfl, ?_⟩
    have hk := HB.out
    refine ⟨hk.os, hk.tape, hk.output, ?_, fun k hkk _ => (World.putObj_heap_other (by omega)).trans (hk.block k hkk)⟩
    have := hk.size
    simpa [World.putObj] using this
  case stop =>
    rintro D c pre W _ _ h _
    exact h.elim
end Go.Proofs.YtjdbmjkidljhpaaDoor

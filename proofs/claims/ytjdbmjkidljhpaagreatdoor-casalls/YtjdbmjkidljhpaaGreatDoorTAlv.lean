/-
 CasAlls where the Stores are refused.
-/
import Derived.Test.YtjdbmjkidljhpaaGreatDoorTWm
namespace Go.Proofs.YtjdbmjkidljhpaaGreatDoor
open Go.RowKit
set_option linter.unusedVariables false
set_option linter.unusedSimpArgs false
set_option maxRecDepth 100000
set_option maxHeartbeats 4000000 in
theorem alls_bad (wd cp stop : Int) (vs vm : Value) (ts ms : List Stp) (W : World) (h : ¬ ((1 ≤ wd ∧ wd ≤ 32) ∧ 0 ≤ cp ∧ cp ≤ 67108864)) (hL : Laid W) (ht : TIs W vs ts) (hm : TIs W vm ms) :
  Calls Tryz.prog 4 #[.int .i64 wd, .int .i64 cp, vs, vm, .int .i64 stop] W fun e w' => e = .returned (.bool true) ∧ Kept (fun _ => False) W w' := by
 obtain ⟨ao, cap, hv, hlm, _⟩ := id ht
 subst hv
 obtain ⟨mo, mc, hmv, hmm, _⟩ := id hm
 subst hmv
 have HKA : Hid (Kept (fun _ => False) W (((W.alloc (.cells #[.slice mo ms.length mc] 22)).alloc (.cells #[.int .i64 stop] 3)).alloc (.cells #[.bool false] 4))) := (((Kept.refl _ W).alloc _).alloc _).alloc _
 have HB10 : Hid ((((W.alloc (.cells #[.slice mo ms.length mc] 22)).alloc (.cells #[.int .i64 stop] 3)).alloc (.cells #[.bool false] 4)).heap[W.heap.size + 1 + 1]? = some (.cells #[.bool false] 4 (0, 0))) := alloc_new _ _ (by simp)
 have HMA := hid_of (made_bad wd cp (((W.alloc (.cells #[.slice mo ms.length mc] 22)).alloc (.cells #[.int .i64 stop] 3)).alloc (.cells #[.bool false] 4)) (laid_kept hL HKA.out (fun f => f)) h)
 clear ht hm h hL
 go_enter Tryz.func4, Tryz.ntmps4
 go_wp2_with fail
 generalize ((W.alloc (.cells #[.slice mo ms.length mc] 22)).alloc (.cells #[.int .i64 stop] 3)).alloc (.cells #[.bool false] 4) = wA at *
 refine HMA.out.mono ?_
 rintro e w1 ⟨rfl, hk1⟩
 have hk2 : Kept (fun _ => False) wA (w1.alloc (.cells #[.pointer none] 23)) := hk1.trans ((Kept.refl _ w1).alloc _)
 have hb : (w1.alloc (.cells #[.pointer none] 23)).heap[W.heap.size + 1 + 1]? = some (.cells #[.bool false] 4 (0, 0)) := (hk2.block _ (heap_lt HB10.out) (fun f => f)).trans HB10.out
 have c10 : (w1.alloc (.cells #[.pointer none] 23)).cell? ⟨W.heap.size + 1 + 1, 0, none⟩ = some (.bool false) := (cell_block _ _ 0 _ _ _ hb).trans rfl
 have f10 : (w1.alloc (.cells #[.pointer none] 23)).frozen? ⟨W.heap.size + 1 + 1, 0, none⟩ = false := frozen_block _ _ 0 _ _ hb
 have HF : Hid (((w1.alloc (.cells #[.pointer none] 23)).setCell ⟨W.heap.size + 1 + 1, 0, none⟩ (.bool true)).heap[W.heap.size + 1 + 1]? = some (.cells #[.bool true] 4 (0, 0))) := set_block _ _ _ _ _ _ hb _
 have HKF : Hid (Kept (fun _ => False) W ((w1.alloc (.cells #[.pointer none] 23)).setCell ⟨W.heap.size + 1 + 1, 0, none⟩ (.bool true))) := Kept.setCell (S := fun _ => False) (p := ⟨W.heap.size + 1 + 1, 0, none⟩) (HKA.out.trans hk2) (.inl (by show W.heap.size ≤ W.heap.size + 1 + 1; omega)) _
 have cF : ((w1.alloc (.cells #[.pointer none] 23)).setCell ⟨W.heap.size + 1 + 1, 0, none⟩ (.bool true)).cell? ⟨W.heap.size + 1 + 1, 0, none⟩ = some (.bool true) := (cell_block _ _ 0 _ _ _ HF.out).trans rfl
 clear hk1 hk2 hb HMA
 go_wp2
 refine bodyPost_ret (v := .bool true) ?_ rfl ⟨rfl, HKF.out⟩
 simp [results, go_sem, cF]
end Go.Proofs.YtjdbmjkidljhpaaGreatDoor

/-
 Mn: Call, Calls, Chead, Cone, Cmega.
-/
import Derived.Test.YtjdbmjkidljhpaaGreatDoorTMk
import Derived.RangeFuncNested
import Derived.RangeFuncBound
import Derived.RangeFuncCalls
import Derived.RangeFuncLeaves
import Derived.RangeFuncBox
import Derived.Shelf.Abstract
import Derived.Shelf.RegionOpen
import Derived.OwnWalkIn
import Derived.TacticsInMore
import Derived.LoopNIn
import Derived.LoopIn
import Derived.Sort.QuietIn
import Derived.WalkMore
import Derived.Laws.EntriesVeiled
import Derived.Test.YtjdbmjkidljhpaaGreatDoorTMm
namespace Go.Proofs.YtjdbmjkidljhpaaGreatDoor
open Go.RowKit Go.Shelf
attribute [local go_sem] Oper.semAt_some
set_option linter.unusedVariables false
set_option linter.unusedSimpArgs false
set_option maxRecDepth 100000
theorem Kept.grow {w w' : World} (h : Kept (fun _ => False) w w') : w.grownBy w' none := ⟨h.os, h.tape, h.output, h.size, fun k hk _ => h.block k hk (fun e => e)⟩
theorem box_stay {B : Nat} {A C : World} {rw : Option Nat} {b : Nat} {t : TypeId} {v : Value} (hv : Boxed A b t v) (hg : A.grownBy C rw) (hr : ∀ r, rw = some r → B ≤ r ∧ ∃ o : Obj, A.heap[r]? = some o ∧ o.isCells = false) : Boxed C b t v :=
 hv.kept hg (fun e => by
  obtain ⟨_, o, ho, hc⟩ := hr b e.symm
  rw [show A.heap[b]? = _ from hv] at ho
  cases ho
  cases hc)
theorem next_none (W : World) (r : Nat) (t : TypeId) (hh : W.heap[r]? = some (.mapIter none 0 #[] 0)) : (Instr.next (.pointer (some ⟨r, 0, none⟩)) false t).run Tryz.prog W = .ok (.tuple #[.bool false]) W := by
 have hg : (getObj r).run Tryz.prog W = .ok (.mapIter none 0 #[] 0) W := by simp [getObj, Sem.run, hh]
 unfold Instr.next
 simp only [Sem.run_bind, hg, Result.andThen_ok]
 rfl
set_option maxHeartbeats 1000000 in
theorem keys_stops (n : Nat) (hn : 1 ≤ n) (Bn : Nat) (w : World) (hBn : Bn < w.heap.size) (hc : w.cell? ⟨Bn, 0, none⟩ = some (.map none)) :
  SeqStopsK Fence.wide n Tryz.prog 69 #[.pointer (some ⟨Bn, 0, none⟩)] (fun x : Empty => x.elim) (fun _ _ => True) (fun _ => True) (fun _ => True) 0 w := fun l J Jx W hW hJ hJx hY h0 => by
 have hc' : W.cell? ⟨Bn, 0, none⟩ = some (.map none) := (hW.cell (p := ⟨Bn, 0, none⟩) hBn).trans hc
 have q1 : ∀ W : World, (Instr.range 63 (.map none)).run Tryz.prog W = .ok (.pointer (some ⟨W.heap.size, 0, none⟩)) (W.alloc (.mapIter none 0 #[] 0)) := fun W => rfl
 have H0 : Hid (J [] (W.alloc (.mapIter none 0 #[] 0))) := hJ [] W _ none h0 (((Kept.refl (fun _ => False) W).alloc _).grow) (fun r e => by cases e)
 have q2 : ∀ t, (Instr.next (.pointer (some ⟨W.heap.size, 0, none⟩)) false t).run Tryz.prog (W.alloc (.mapIter none 0 #[] 0)) = .ok (.tuple #[.bool false]) (W.alloc (.mapIter none 0 #[] 0)) := fun t => by
  exact next_none _ _ t (alloc_new _ _ rfl)
 clear hW hJ hJx hY h0 hc
 refine callsIn_of_wp Tryz.func69 rfl trivial ?_ rfl
 simp only [Tryz.ntmps69, List.size_toArray, List.length_cons, List.length_nil, Nat.reduceAdd, Nat.reduceSub, Array.replicate_succ, Array.replicate_zero, List.push_toArray, List.append_toArray, List.nil_append, List.cons_append]
 gi_wp2
 gi_loopw [3] (fun _ wr => wr = W.alloc (.mapIter none 0 #[] 0)) (fun _ _ => 0)
 case atStart => rfl
 case round =>
  subst hrel
  gi_wp2
  go_end0
  exact ⟨⟨_, rfl⟩, .inl ⟨[], trivial, H0.out⟩⟩
set_option maxHeartbeats 1000000 in
theorem aseq_none (Bn : Nat) (w : World) (hBn : Bn < w.heap.size) (hc : w.cell? ⟨Bn, 0, none⟩ = some (.map none)) :
  Calls Tryz.prog 77 #[.slice none 0 0, .func (.func 69) #[] #[.pointer (some ⟨Bn, 0, none⟩)]] w fun e w' => e = .returned (.slice none 0 0) ∧ Kept (fun _ => False) w w' := by
 refine (callsIn_wide (n := 3)).1 ?_
 refine callsIn_of_wp_marks Tryz.func77 rfl trivial ?_ rfl
 simp only [Tryz.ntmps77, List.size_toArray, List.length_cons, List.length_nil, Nat.reduceAdd, Nat.reduceSub, Array.replicate_succ, Array.replicate_zero, List.push_toArray, List.append_toArray, List.nil_append, List.cons_append]
 gi_wp2
 have b0 := Boxed.new w 89 (.slice none 0 0)
 have hB0 := (Below.refl w.heap.size w).alloc (Nat.le_refl _) (.cells #[.slice none 0 0] 89)
 have hcc : (w.alloc (.cells #[.slice none 0 0] 89)).cell? ⟨Bn, 0, none⟩ = some (.map none) := ((Kept.refl (fun _ => False) w).alloc _).cell hc (fun f => f)
 obtain ⟨W0, hW0⟩ : ∃ W0, w.alloc (.cells #[.slice none 0 0] 89) = W0 := ⟨_, rfl⟩
 have hsz : W0.heap.size = w.heap.size + 1 := by rw [← hW0]; simp
 rw [hW0] at b0 hB0 hcc ⊢
 clear hW0
 refine wpIn_rangeFunc_ownG rfl (by omega) (gf := 69) (lb := #[.pointer (some ⟨Bn, 0, none⟩)]) rfl trivial (enters_of Tryz.func69 (by kernel_rfl) rfl)
  (keys_stops 2 (by omega) Bn W0 (by omega) hcc) (fun _ _ => trivial) (fun _ _ _ _ _ _ _ _ => trivial) (Below.refl _ _) (fun x => x.elim)
  (fun pre W => (w.heap.size + 1 ≤ W.heap.size ∧ Boxed W w.heap.size 89 (.slice none 0 0)) ∧ Below w.heap.size w W)
  (fun _ _ _ => False) ?hI ?hIx ?h0 (fun x => x.elim) (fun _ x => x.elim) (fun _ _ x => x.elim) ?done ?stop
 case hI =>
  rintro pre A C rw ⟨⟨hbs, hv⟩, hB⟩ hg hr
  exact ⟨⟨Nat.le_trans hbs hg.size, box_stay hv hg hr⟩, hB.grown hg hB.size (fun k e => by have := (hr k e).1; omega)⟩
 case hIx => exact fun _ _ _ _ _ h _ _ => h
 case h0 => exact ⟨⟨by omega, b0⟩, hB0⟩
 case done =>
  rintro D ys W hD hS ⟨⟨hbs, hv⟩, hB⟩ hK
  have hc := hv.cell
  have HB := hid_of hB
  have HK := hid_of hK
  clear hB hK
  gi_wp2
  refine ⟨by simp, .inl ⟨_, _, rfl, run_takeDeferred HK.out, ?_⟩⟩
  refine ⟨_, results_tmp rfl _ _ _, rfl, ?_⟩
  have hk := HB.out
  refine ⟨hk.os, hk.tape, hk.output, ?_, fun k hkk _ => (World.putObj_heap_other (by omega)).trans (hk.block k hkk)⟩
  have := hk.size
  simpa [World.putObj] using this
 case stop =>
  rintro D c pre W _ _ h _
  exact h.elim
end Go.Proofs.YtjdbmjkidljhpaaGreatDoor
namespace Go.Proofs.YtjdbmjkidljhpaaGreatDoor
open Go.RowKit
set_option linter.unusedVariables false
set_option linter.unusedSimpArgs false
set_option maxRecDepth 100000
theorem collect_none (Bn : Nat) (w : World) (hBn : Bn < w.heap.size) (hc : w.cell? ⟨Bn, 0, none⟩ = some (.map none)) :
  Calls Tryz.prog 67 #[.func (.func 69) #[] #[.pointer (some ⟨Bn, 0, none⟩)]] w fun e w' => e = .returned (.slice none 0 0) ∧ Kept (fun _ => False) w w' := by
 have HA := hid_of (aseq_none Bn w hBn hc)
 clear hc
 go_enter Tryz.func67, Tryz.ntmps67
 go_wp2_with fail
 refine HA.out.mono ?_
 rintro e w1 ⟨rfl, hk⟩
 have HK := hid_of hk
 clear hk
 go_wp2
 go_ret
 exact ⟨rfl, HK.out⟩
set_option maxHeartbeats 1000000 in
theorem isort_none (w : World) : Calls Tryz.prog 87 #[.slice none 0 0, .int .i64 0, .int .i64 0, .func (.func 54) #[] #[]] w fun e w' => e = .returned (.tuple #[]) ∧ w' = w := by
 go_enter Tryz.func87, Tryz.ntmps87
 go_wp2
 go_loopw [8] (fun i wr => i = .int .i64 1 ∧ wr = w) (fun _ _ => 0)
 case atStart => exact ⟨rfl, rfl⟩
 case round =>
  obtain ⟨rfl, rfl⟩ := hrel
  go_wp2
  go_end0
  exact ⟨rfl, rfl⟩
set_option maxHeartbeats 2000000 in
theorem pdq_none (l : Int) (w : World) : Calls Tryz.prog 78 #[.slice none 0 0, .int .i64 0, .int .i64 0, .int .i64 l, .func (.func 54) #[] #[]] w fun e w' => e = .returned (.tuple #[]) ∧ w' = w := by
 have HI := hid_of isort_none
 go_enter Tryz.func78, Tryz.ntmps78
 go_wp2
 go_loopw [1, 2, 12] (fun a b _ wr => a = .int .i64 0 ∧ b = .int .i64 0 ∧ wr = w) (fun _ _ _ _ => 0)
 case atStart => exact ⟨rfl, rfl, rfl⟩
 case round =>
  obtain ⟨rfl, rfl, rfl⟩ := hrel
  go_wp2_with fail
  refine (HI.out _).mono ?_
  rintro e w1 ⟨rfl, rfl⟩
  go_wp2
  exact body_retv rfl rfl ⟨rfl, rfl⟩
theorem bits_zero (w : World) : Calls Tryz.prog 79 #[.int .u64 0] w fun e w' => ∃ l, e = .returned (.int .i64 l) ∧ w' = w := by
 go_enter Tryz.func79, Tryz.ntmps79
 go_wp2
 go_ret
 exact ⟨_, rfl, rfl⟩
theorem sortf_none (w : World) : Calls Tryz.prog 68 #[.slice none 0 0, .func (.func 54) #[] #[]] w fun e w' => e = .returned (.tuple #[]) ∧ w' = w := by
 have HB := hid_of bits_zero
 have HP := hid_of pdq_none
 go_enter Tryz.func68, Tryz.ntmps68
 go_wp2_with fail
 refine (HB.out _).mono ?_
 rintro e w1 ⟨l, rfl, rfl⟩
 go_wp2_with fail
 refine (HP.out l _).mono ?_
 rintro e w2 ⟨rfl, rfl⟩
 go_wp2
 go_end0
 exact ⟨rfl, rfl⟩
theorem sorted_none (Bn : Nat) (w : World) (hBn : Bn < w.heap.size) (hc : w.cell? ⟨Bn, 0, none⟩ = some (.map none)) :
  Calls Tryz.prog 52 #[.func (.func 69) #[] #[.pointer (some ⟨Bn, 0, none⟩)], .func (.func 54) #[] #[]] w fun e w' => e = .returned (.slice none 0 0) ∧ Kept (fun _ => False) w w' := by
 have HA := hid_of (collect_none Bn w hBn hc)
 have HS := hid_of sortf_none
 clear hc
 go_enter Tryz.func52, Tryz.ntmps52
 go_wp2_with fail
 refine HA.out.mono ?_
 rintro e w1 ⟨rfl, hk⟩
 have HK := hid_of hk
 clear hk
 go_wp2_with fail
 refine (HS.out _).mono ?_
 rintro e w2 ⟨rfl, rfl⟩
 go_wp2
 go_ret
 exact ⟨rfl, HK.out⟩
theorem keys_none (w : World) : Calls Tryz.prog 53 #[.map none] w fun e w' => e = .returned (.func (.func 69) #[] #[.pointer (some ⟨w.heap.size, 0, none⟩)]) ∧ w' = w.alloc (.cells #[.map none] 63) := by
 go_enter Tryz.func53, Tryz.ntmps53
 go_wp2
 go_ret
 exact ⟨rfl, rfl⟩
theorem mclone_none (w : World) : Calls Tryz.prog 49 #[.map none] w fun e w' => e = .returned (.map none) ∧ w' = w := by
 have q0 := eqMap
 go_enter Tryz.func49, Tryz.ntmps49
 go_wp2
 go_ret
 exact ⟨rfl, rfl⟩
set_option maxHeartbeats 1000000 in
theorem row_none {w : World} {s : Nat} {σ : Sg} (h : Stor w s (.map none) σ) : Calls Tryz.prog 28 #[.pointer (some ⟨s, 0, none⟩)] w fun e w' => ∃ a b, e = .returned (.func (.func 55) #[] #[.pointer (some a), .pointer (some b)]) ∧ Kept (fun _ => False) w w' := by
 have c2 : w.cell? ⟨s, 2, none⟩ = some (.map none) := h.cell 2
 have HC2 := hid_of c2
 have HKN := hid_of keys_none
 have HMC := hid_of mclone_none
 clear h
 go_enter Tryz.func28, Tryz.ntmps28
 go_wp2_with fail
 refine (HKN.out _).mono ?_
 rintro e w1 ⟨rfl, rfl⟩
 have HS := hid_of (sorted_none w.heap.size (w.alloc (.cells #[.map none] 63)) (by simp) ((cell_block _ _ _ _ _ _ (alloc_new _ _ rfl)).trans rfl))
 have HK1 : Hid (Kept (fun _ => False) w (w.alloc (.cells #[.map none] 63))) := (Kept.refl _ w).alloc _
 go_wp2_with fail
 refine HS.out.mono ?_
 rintro e w2 ⟨rfl, hk⟩
 have HK2 := hid_of (HK1.out.trans hk)
 have c3 := HK2.out.cell HC2.out (fun f => f)
 have c4 : (w2.alloc (.cells #[.slice none 0 0] 89)).cell? ⟨s, 2, none⟩ = some (.map none) := (HK2.out.alloc _).cell HC2.out (fun f => f)
 clear hk HS HK1 HKN c2 c3
 go_wp2_with fail
 refine (HMC.out _).mono ?_
 rintro e w3 ⟨rfl, rfl⟩
 go_wp2
 go_ret
 exact ⟨_, _, rfl, (HK2.out.alloc _).alloc _⟩
set_option maxHeartbeats 1000000 in
theorem all_none {w : World} {s : Nat} {σ : Sg} (h : Stor w s (.map none) σ) : Calls Tryz.prog 11 #[.pointer (some ⟨s, 0, none⟩)] w fun e w' => ∃ a, e = .returned (.func (.func 29) #[] #[.pointer (some a)]) ∧ Kept (fun _ => False) w w' := by
 have HR := hid_of (row_none h)
 clear h
 go_enter Tryz.func11, Tryz.ntmps11
 go_wp2_with fail
 refine HR.out.mono ?_
 rintro e w1 ⟨a, b, rfl, hk⟩
 have HK := hid_of hk
 clear hk HR
 go_wp2
 go_ret
 exact ⟨_, rfl, HK.out.alloc _⟩
end Go.Proofs.YtjdbmjkidljhpaaGreatDoor
namespace Go.Proofs.YtjdbmjkidljhpaaGreatDoor
open Go.RowKit
set_option linter.unusedVariables false
set_option linter.unusedSimpArgs false
set_option maxRecDepth 100000
theorem front_a : frontOf 2 [97] = [202, 151, 0, 0, 0, 0, 0, 0, 0, 0, 0, 0, 0, 0, 0, 0, 0, 0, 0, 0, 0, 0, 0, 0, 0, 0, 0, 0, 0, 0, 0, 0] := by decide +kernel
theorem used_empty (σ : Sg) (d xs : List Int) (he : σ.es = []) : usedOf σ d xs = σ.us + ((xs.length : Int) + 32) := by
 unfold usedOf
 rw [he]
 simp [look]
theorem lay_empty {B : Nat} {σ σ' : Sg} {d xs : List Int} (h : LayOk B σ σ' d xs) (he : σ.es = []) : ∃ bv born, σ' = { σ with us := σ.us + ((xs.length : Int) + 32), sp := σ.sp + 1, es := [⟨d, bv, xs, σ.sp + 1, born⟩] } := by
 obtain ⟨bv, born, _, h⟩ := h
 refine ⟨bv, born, ?_⟩
 rw [h, used_empty σ d xs he, he]
 rfl
theorem look_one (d : List Int) (bv : Value) (xs : List Int) (st : Int) (born : Nat) : look [⟨d, bv, xs, st, born⟩] d = some ⟨d, bv, xs, st, born⟩ := by
 rw [look, if_pos rfl]
theorem kept_own {W w w' : World} {s : Nat} {mv : Value} (h : Kept (fun _ => False) W w) (hk : Kept (Own s mv) w w') (hs : W.heap.size ≤ s) (hm : ∀ r, mv = .map (some r) → W.heap.size ≤ r) : Kept (fun _ => False) W w' :=
 h.step hk (fun i hi hh => by
  rcases hh with hh | hh
  ·omega
  ·have := hm i hh
   omega)
theorem kept_s {W w w' : World} {s : Nat} (h : Kept (fun _ => False) W w) (hk : Kept (fun k => k = s) w w') (hs : W.heap.size ≤ s) : Kept (fun _ => False) W w' :=
 h.step hk (fun i hi hh => by omega)
set_option maxHeartbeats 4000000 in
theorem head_any (w : World) (hL : Laid w) : Calls Tryz.prog 9 #[] w fun e w' => e = .returned (.bool true) ∧ Kept (fun _ => False) w w' := by
 have hL0 := hL.size
 have HL := hid_of hL
 have HN := hid_of (fun W => new_store 2 70 W (by decide) (by decide) (by decide) (by decide))
 have HQ : ∀ (W : World) (a : Addr), (binOp .eql 47 (.func (.func 29) #[] #[.pointer (some a)]) Value.nilFunc).run Tryz.prog W = .ok (.bool false) W := fun W a => rfl
 clear hL
 go_enter Tryz.func9, Tryz.ntmps9
 go_wp2_with fail
 refine (HN.out _).mono ?_
 rintro e w1 ⟨rfl, rfl⟩
 have HS0 := hid_of (stor_new w 2 70)
 have HK0 : Hid (Kept (fun _ => False) w (w.alloc (.cells ((Sg.new 2 70).cells (.map none)) 65))) := (Kept.refl _ w).alloc _
 clear HN
 generalize w.alloc (.cells ((Sg.new 2 70).cells (.map none)) 65) = w1 at *
 go_wp2_with fail
 refine (all_none HS0.out).mono ?_
 rintro e w2 ⟨a, rfl, hk2⟩
 have HS1 : Hid (Stor (w2.alloc (.cells #[.int .u8 97] 5)) w.heap.size (.map none) (Sg.new 2 70)) := HS0.out.kept (hk2.alloc _) (fun _ _ f => f)
 have HK1 : Hid (Kept (fun _ => False) w (w2.alloc (.cells #[.int .u8 97] 5))) := (HK0.out.trans hk2).alloc _
 have HX1 : Hid (BIn (w2.alloc (.cells #[.int .u8 97] 5)) (.slice (some ⟨w2.heap.size, 0, none⟩) 1 1) [97]) := bin_new (t := 5) (f := (0, 0)) (alloc_new _ _ rfl) rfl (Nat.le_refl _)
 have hsz2 : w.heap.size < w2.heap.size := Nat.lt_of_lt_of_le HS0.out.lt hk2.size
 clear hk2 HS0 HK0
 go_wp2_with fail
 have HP := hid_of (put_ok0 HS1.out (laid_kept HL.out HK1.out (fun f => f)) (by omega) 2 rfl (by decide) (by decide) (.slice (some ⟨w2.heap.size, 0, none⟩) 1 1) [97] HX1.out (by decide) (by decide) (fun _ g hg => by cases hg; show w2.heap.size ≠ w.heap.size; omega) (by decide) (by decide) rfl (by decide) (by decide) (by decide) (by decide) (by rw [used_empty _ _ _ rfl]; decide))
 rw [front_a] at HP
 generalize w2.alloc (.cells #[.int .u8 97] 5) = w3 at *
 refine HP.out.mono ?_
 rintro e w4 ⟨rfl, mv, σ, hlo, hS4, hk4, hmv⟩
 obtain ⟨bv, born, hσ⟩ := lay_empty hlo rfl
 have hk4' : Kept (fun _ => False) w w4 := kept_own HK1.out hk4 (Nat.le_refl _) (fun r h => by cases h)
 have hb4 : w.heap.size < w4.heap.size := hS4.lt
 have hdv : dv [202, 151, 0, 0, 0, 0, 0, 0, 0, 0, 0, 0, 0, 0, 0, 0, 0, 0, 0, 0, 0, 0, 0, 0, 0, 0, 0, 0, 0, 0, 0, 0] = .agg #[.int .u8 202, .int .u8 151, .int .u8 0, .int .u8 0, .int .u8 0, .int .u8 0, .int .u8 0, .int .u8 0, .int .u8 0, .int .u8 0, .int .u8 0, .int .u8 0, .int .u8 0, .int .u8 0, .int .u8 0, .int .u8 0, .int .u8 0, .int .u8 0, .int .u8 0, .int .u8 0, .int .u8 0, .int .u8 0, .int .u8 0, .int .u8 0, .int .u8 0, .int .u8 0, .int .u8 0, .int .u8 0, .int .u8 0, .int .u8 0, .int .u8 0, .int .u8 0] := rfl
 have hws : σ.wd = ((2 : Nat) : Int) := by rw [hσ]; rfl
 have hgs : σ.gt = 0 := by rw [hσ]; rfl
 have hus : σ.us = 33 := by rw [hσ]; rfl
 have hlk : look σ.es [202, 151, 0, 0, 0, 0, 0, 0, 0, 0, 0, 0, 0, 0, 0, 0, 0, 0, 0, 0, 0, 0, 0, 0, 0, 0, 0, 0, 0, 0, 0, 0] = some ⟨[202, 151, 0, 0, 0, 0, 0, 0, 0, 0, 0, 0, 0, 0, 0, 0, 0, 0, 0, 0, 0, 0, 0, 0, 0, 0, 0, 0, 0, 0, 0, 0], bv, [97], 1, born⟩ := by rw [hσ]; exact look_one _ _ _ _ _
 have hwb : wholeB 2 σ.es [202, 151, 0, 0, 0, 0, 0, 0, 0, 0, 0, 0, 0, 0, 0, 0, 0, 0, 0, 0, 0, 0, 0, 0, 0, 0, 0, 0, 0, 0, 0, 0] = true := by
  unfold wholeB
  rw [hlk]
  show decide (frontOf 2 [97] = [202, 151, 0, 0, 0, 0, 0, 0, 0, 0, 0, 0, 0, 0, 0, 0, 0, 0, 0, 0, 0, 0, 0, 0, 0, 0, 0, 0, 0, 0, 0, 0]) = true
  rw [front_a]
  rfl
 have hrx : rawX σ.es [202, 151, 0, 0, 0, 0, 0, 0, 0, 0, 0, 0, 0, 0, 0, 0, 0, 0, 0, 0, 0, 0, 0, 0, 0, 0, 0, 0, 0, 0, 0, 0] = [97] := by
  unfold rawX
  rw [hlk]
 have HS5 : Hid (Stor (w4.alloc (.cells #[.int .u8 202, .int .u8 151, .int .u8 0, .int .u8 0, .int .u8 0, .int .u8 0, .int .u8 0, .int .u8 0, .int .u8 0, .int .u8 0, .int .u8 0, .int .u8 0, .int .u8 0, .int .u8 0, .int .u8 0, .int .u8 0, .int .u8 0, .int .u8 0, .int .u8 0, .int .u8 0, .int .u8 0, .int .u8 0, .int .u8 0, .int .u8 0, .int .u8 0, .int .u8 0, .int .u8 0, .int .u8 0, .int .u8 0, .int .u8 0, .int .u8 0, .int .u8 0] 29)) w.heap.size mv σ) := hS4.kept ((Kept.refl (fun _ => False) w4).alloc _) (fun _ _ f => f)
 have HK5 : Hid (Kept (fun _ => False) w (w4.alloc (.cells #[.int .u8 202, .int .u8 151, .int .u8 0, .int .u8 0, .int .u8 0, .int .u8 0, .int .u8 0, .int .u8 0, .int .u8 0, .int .u8 0, .int .u8 0, .int .u8 0, .int .u8 0, .int .u8 0, .int .u8 0, .int .u8 0, .int .u8 0, .int .u8 0, .int .u8 0, .int .u8 0, .int .u8 0, .int .u8 0, .int .u8 0, .int .u8 0, .int .u8 0, .int .u8 0, .int .u8 0, .int .u8 0, .int .u8 0, .int .u8 0, .int .u8 0, .int .u8 0] 29))) := hk4'.alloc _
 have HD5 : Hid ((w4.alloc (.cells #[.int .u8 202, .int .u8 151, .int .u8 0, .int .u8 0, .int .u8 0, .int .u8 0, .int .u8 0, .int .u8 0, .int .u8 0, .int .u8 0, .int .u8 0, .int .u8 0, .int .u8 0, .int .u8 0, .int .u8 0, .int .u8 0, .int .u8 0, .int .u8 0, .int .u8 0, .int .u8 0, .int .u8 0, .int .u8 0, .int .u8 0, .int .u8 0, .int .u8 0, .int .u8 0, .int .u8 0, .int .u8 0, .int .u8 0, .int .u8 0, .int .u8 0, .int .u8 0] 29)).heap[w4.heap.size]? = some (.cells #[.int .u8 202, .int .u8 151, .int .u8 0, .int .u8 0, .int .u8 0, .int .u8 0, .int .u8 0, .int .u8 0, .int .u8 0, .int .u8 0, .int .u8 0, .int .u8 0, .int .u8 0, .int .u8 0, .int .u8 0, .int .u8 0, .int .u8 0, .int .u8 0, .int .u8 0, .int .u8 0, .int .u8 0, .int .u8 0, .int .u8 0, .int .u8 0, .int .u8 0, .int .u8 0, .int .u8 0, .int .u8 0, .int .u8 0, .int .u8 0, .int .u8 0, .int .u8 0] 29 (0, 0))) := alloc_new _ _ rfl
 have HG := hid_of (get_ok HS5.out (laid_kept HL.out HK5.out (fun f => f)) (by omega) 2 hws (by decide) (by decide) [202, 151, 0, 0, 0, 0, 0, 0, 0, 0, 0, 0, 0, 0, 0, 0, 0, 0, 0, 0, 0, 0, 0, 0, 0, 0, 0, 0, 0, 0, 0, 0] rfl (by omega) (by omega) hwb)
 rw [hrx, hdv] at HG
 rw [hdv]
 have hds : (Tryz.prog.info? 29).map (·.size) = some (#[.int .u8 202, .int .u8 151, .int .u8 0, .int .u8 0, .int .u8 0, .int .u8 0, .int .u8 0, .int .u8 0, .int .u8 0, .int .u8 0, .int .u8 0, .int .u8 0, .int .u8 0, .int .u8 0, .int .u8 0, .int .u8 0, .int .u8 0, .int .u8 0, .int .u8 0, .int .u8 0, .int .u8 0, .int .u8 0, .int .u8 0, .int .u8 0, .int .u8 0, .int .u8 0, .int .u8 0, .int .u8 0, .int .u8 0, .int .u8 0, .int .u8 0, .int .u8 0] : Array Value).size := size28
 have hone : (#[.int .u8 202, .int .u8 151, .int .u8 0, .int .u8 0, .int .u8 0, .int .u8 0, .int .u8 0, .int .u8 0, .int .u8 0, .int .u8 0, .int .u8 0, .int .u8 0, .int .u8 0, .int .u8 0, .int .u8 0, .int .u8 0, .int .u8 0, .int .u8 0, .int .u8 0, .int .u8 0, .int .u8 0, .int .u8 0, .int .u8 0, .int .u8 0, .int .u8 0, .int .u8 0, .int .u8 0, .int .u8 0, .int .u8 0, .int .u8 0, .int .u8 0, .int .u8 0] : Array Value).all (·.oneCell') = true := oneCells .u8 [202, 151, 0, 0, 0, 0, 0, 0, 0, 0, 0, 0, 0, 0, 0, 0, 0, 0, 0, 0, 0, 0, 0, 0, 0, 0, 0, 0, 0, 0, 0, 0]
 have HUS := hid_of hus
 clear HP hlo hS4 hk4 hmv hσ hk4' hdv hws hgs hlk hwb hrx hus HS1 HX1 HK1
 go_wp2_with (first | (refine wpList_store_row rfl 29 _ _ rfl w4.heap.size #[.int .u8 202, .int .u8 151, .int .u8 0, .int .u8 0, .int .u8 0, .int .u8 0, .int .u8 0, .int .u8 0, .int .u8 0, .int .u8 0, .int .u8 0, .int .u8 0, .int .u8 0, .int .u8 0, .int .u8 0, .int .u8 0, .int .u8 0, .int .u8 0, .int .u8 0, .int .u8 0, .int .u8 0, .int .u8 0, .int .u8 0, .int .u8 0, .int .u8 0, .int .u8 0, .int .u8 0, .int .u8 0, .int .u8 0, .int .u8 0, .int .u8 0, .int .u8 0] rfl rfl 29 _ (alloc_new _ _ rfl) hds rfl hone ?_; rw [setRow_new _ _ _ _ rfl]) | refine wpList_load_row rfl 29 _ rfl w4.heap.size rfl 29 #[.int .u8 202, .int .u8 151, .int .u8 0, .int .u8 0, .int .u8 0, .int .u8 0, .int .u8 0, .int .u8 0, .int .u8 0, .int .u8 0, .int .u8 0, .int .u8 0, .int .u8 0, .int .u8 0, .int .u8 0, .int .u8 0, .int .u8 0, .int .u8 0, .int .u8 0, .int .u8 0, .int .u8 0, .int .u8 0, .int .u8 0, .int .u8 0, .int .u8 0, .int .u8 0, .int .u8 0, .int .u8 0, .int .u8 0, .int .u8 0, .int .u8 0, .int .u8 0] (0, 0) _ HD5.out Tryz.underlying29 rfl hds ?_)
 generalize hb5 : w4.heap.size = b5 at *
 generalize w4.alloc (.cells #[.int .u8 202, .int .u8 151, .int .u8 0, .int .u8 0, .int .u8 0, .int .u8 0, .int .u8 0, .int .u8 0, .int .u8 0, .int .u8 0, .int .u8 0, .int .u8 0, .int .u8 0, .int .u8 0, .int .u8 0, .int .u8 0, .int .u8 0, .int .u8 0, .int .u8 0, .int .u8 0, .int .u8 0, .int .u8 0, .int .u8 0, .int .u8 0, .int .u8 0, .int .u8 0, .int .u8 0, .int .u8 0, .int .u8 0, .int .u8 0, .int .u8 0, .int .u8 0] 29) = w5 at *
 refine HG.out.mono ?_
 rintro e w6 ⟨v, rfl, hv1, _, hS6, hk6⟩
 have HK6 := hid_of (kept_s HK5.out hk6 (Nat.le_refl _))
 have hD6 : w6.heap[b5]? = some (.cells #[.int .u8 202, .int .u8 151, .int .u8 0, .int .u8 0, .int .u8 0, .int .u8 0, .int .u8 0, .int .u8 0, .int .u8 0, .int .u8 0, .int .u8 0, .int .u8 0, .int .u8 0, .int .u8 0, .int .u8 0, .int .u8 0, .int .u8 0, .int .u8 0, .int .u8 0, .int .u8 0, .int .u8 0, .int .u8 0, .int .u8 0, .int .u8 0, .int .u8 0, .int .u8 0, .int .u8 0, .int .u8 0, .int .u8 0, .int .u8 0, .int .u8 0, .int .u8 0] 29 (0, 0)) := (hk6.block _ (heap_lt HD5.out) (by omega)).trans HD5.out
 obtain ⟨vo, vc, hvv, _, _⟩ := id hv1
 subst hvv
 have HSA : Hid (Calls Tryz.prog 12 #[.slice vo [97].length vc, .slice (some ⟨w6.heap.size, 0, none⟩) 1 1] (w6.alloc (.cells #[.int .u8 97] 5)) fun e w' => e = .returned (.bool true) ∧ Kept (fun _ => False) (w6.alloc (.cells #[.int .u8 97] 5)) w') := same_any _ _ [97] [97] _ (hv1.kept2 ((Kept.refl (fun _ => False) w6).alloc _) (fun _ _ _ f => f)) (bin_new (t := 5) (f := (0, 0)) (alloc_new _ _ rfl) rfl (Nat.le_refl _)) (by decide)
 have HS7 := hid_of hS6
 have HD7 := hid_of hD6
 have hb5' : b5 < w6.heap.size := heap_lt hD6
 clear hv1 hS6 hk6 hD6 HG HD5 HK5 HS5
 go_wp2_with fail
 refine HSA.out.mono ?_
 rintro e w8 ⟨rfl, hk8⟩
 have hkk : Kept (fun _ => False) w6 w8 := ((Kept.refl _ w6).alloc _).trans hk8
 have HK8 := hid_of (HK6.out.trans hkk)
 have HS8 := hid_of (HS7.out.kept hkk (fun _ _ f => f))
 have hD8 := (hkk.block _ hb5' (fun f => f)).trans HD7.out
 have e0 : w8.cell? ⟨b5, 0, none⟩ = some (.int .u8 202) := (cell_block _ _ _ _ _ _ hD8).trans rfl
 have e1 : w8.cell? ⟨b5, 1, none⟩ = some (.int .u8 151) := (cell_block _ _ _ _ _ _ hD8).trans rfl
 have e2 : w8.cell? ⟨b5, 2, none⟩ = some (.int .u8 0) := (cell_block _ _ _ _ _ _ hD8).trans rfl
 have HU := hid_of (used_any HS8.out)
 have hus2 : σ.get1.us = 33 := HUS.out
 rw [hus2] at HU
 clear HSA hk8 hkk HK6 HS7 HD7 hD8 HS8 hus2 HUS
 go_wp2_with fail
 refine HU.out.mono ?_
 rintro e w9 ⟨rfl, rfl⟩
 go_wp2
 go_ret
 exact ⟨rfl, HK8.out⟩
end Go.Proofs.YtjdbmjkidljhpaaGreatDoor
namespace Go.Proofs.YtjdbmjkidljhpaaGreatDoor
open Go.RowKit
set_option linter.unusedVariables false
set_option linter.unusedSimpArgs false
set_option maxRecDepth 100000
/-- The Store's own state, in the walk: one thing lies there, under d. -/
structure One (W0 : Nat) (k : Nat) (d ys : List Int) (mv : Value) (σ : Sg) : Prop where
 wd : σ.wd = k
 cp : σ.cp = 67108864
 us : σ.us = (ys.length : Int) + 32
 sp : 0 ≤ σ.sp ∧ σ.sp ≤ 2
 gt : σ.gt = 0
 pt : σ.pt = 1
 es : ∃ bv st born, σ.es = [⟨d, bv, ys, st, born⟩]
 mv : ∀ r, mv = .map (some r) → W0 ≤ r
theorem cut_cut (d : List Int) (k : Nat) (hd : d.length = 32) (hk : k ≤ 32) : cutL (cutL d k) k = cutL d k := by
 unfold cutL
 rw [List.take_append_of_le_length (by simp; omega), List.take_take, Nat.min_self]
theorem fits_front (k : Nat) (xs : List Int) (h1 : 1 ≤ k) (h2 : k ≤ 32) : fitsL (frontOf k xs) (k : Int) = true := by
 unfold fitsL cutE cutR
 rw [if_neg (by omega), if_neg (by omega)]
 have : cutL (frontOf k xs) (k : Int).toNat = frontOf k xs := cut_cut (sha xs) k (sha_len xs) h2
 rw [this]
 simp
theorem One.look {W0 k : Nat} {d ys : List Int} {mv : Value} {σ : Sg} (h : One W0 k d ys mv σ) : ∃ e, YtjdbmjkidljhpaaGreatDoor.look σ.es d = some e ∧ e.xs = ys := by
 obtain ⟨bv, st, born, he⟩ := h.es
 exact ⟨_, by rw [he]; exact look_one _ _ _ _ _, rfl⟩
theorem One.none {W0 k : Nat} {d ys d' : List Int} {mv : Value} {σ : Sg} (h : One W0 k d ys mv σ) (hd : d' ≠ d) : YtjdbmjkidljhpaaGreatDoor.look σ.es d' = none := by
 obtain ⟨bv, st, born, he⟩ := h.es
 rw [he, YtjdbmjkidljhpaaGreatDoor.look, if_neg hd]
 rfl
theorem One.whole {W0 k : Nat} {d ys : List Int} {mv : Value} {σ : Sg} (h : One W0 k d ys mv σ) : wholeB k σ.es d = decide (frontOf k ys = d) := by
 obtain ⟨bv, st, born, he⟩ := h.es
 unfold wholeB
 rw [he, look_one]
theorem One.raw {W0 k : Nat} {d ys : List Int} {mv : Value} {σ : Sg} (h : One W0 k d ys mv σ) : rawX σ.es d = ys ∧ (YtjdbmjkidljhpaaGreatDoor.look σ.es d).isSome = true := by
 obtain ⟨bv, st, born, he⟩ := h.es
 unfold rawX
 rw [he, look_one]
 exact ⟨rfl, rfl⟩
/-- What a Put that goes well leaves: it lies there. -/
structure Lies (W0 : Nat) (k : Nat) (d xs : List Int) (mv : Value) (σ : Sg) : Prop where
 wd : σ.wd = k
 gt : σ.gt = 0
 whole : wholeB k σ.es d = true
 raw : rawX σ.es d = xs
 mv : ∀ r, mv = .map (some r) → W0 ≤ r
theorem look_lays : ∀ (es : List En) (e : En), ∃ b, YtjdbmjkidljhpaaGreatDoor.look (lays es e) e.k = some { e with born := b }
 | [], e => ⟨e.born, by rw [lays, YtjdbmjkidljhpaaGreatDoor.look, if_pos rfl]⟩
 | x :: es, e => by
  rw [lays]
  by_cases h : e.k = x.k
  ·rw [if_pos h]
   exact ⟨x.born, by rw [YtjdbmjkidljhpaaGreatDoor.look, if_pos rfl]⟩
  ·rw [if_neg h]
   obtain ⟨b, hb⟩ := look_lays es e
   exact ⟨b, by rw [YtjdbmjkidljhpaaGreatDoor.look, if_neg h, hb]⟩
theorem lies_of {B W0 k : Nat} {d xs : List Int} {mv : Value} {σ σ' : Sg} (h : LayOk B σ σ' d xs) (hw : σ.wd = k) (hg : σ.gt = 0) (hd : d = frontOf k xs) (hm : ∀ r, mv = .map (some r) → W0 ≤ r) : Lies W0 k d xs mv σ' := by
 obtain ⟨bv, born, _, rfl⟩ := h
 obtain ⟨b, hb⟩ := look_lays σ.es ⟨d, bv, xs, σ.sp + 1, born⟩
 refine ⟨hw, hg, ?_, ?_, hm⟩
 ·show wholeB k (lays σ.es ⟨d, bv, xs, σ.sp + 1, born⟩) d = true
  unfold wholeB
  rw [show YtjdbmjkidljhpaaGreatDoor.look (lays σ.es ⟨d, bv, xs, σ.sp + 1, born⟩) d = _ from hb]
  simp [hd]
 ·show rawX (lays σ.es ⟨d, bv, xs, σ.sp + 1, born⟩) d = xs
  unfold rawX
  rw [show YtjdbmjkidljhpaaGreatDoor.look (lays σ.es ⟨d, bv, xs, σ.sp + 1, born⟩) d = _ from hb]
theorem cells_not_map {w : World} {g r : Nat} {c : Array Value} {t : TypeId} {f : Nat × Nat} {s : Nat} {mv : Value} {σ : Sg} (hg : w.heap[g]? = some (.cells c t f)) (h : Stor w s mv σ) (hgs : g ≠ s) : ¬ Own s mv g := by
 intro hh
 rcases hh with hh | hh
 ·exact hgs hh
 ·rcases h.map with ⟨h1, _⟩ | ⟨r', cl, h1, h2, _⟩
  ·rw [h1] at hh; cases hh
  ·rw [h1] at hh
   cases hh
   rw [hg] at h2
   cases h2
theorem BIn.blt {w : World} {v : Value} {xs : List Int} (h : BIn w v xs) (hx : xs ≠ []) : ∀ g, v.ownBlock = some g → g < w.heap.size := fun g hg => by
 obtain ⟨i, u, hu⟩ := h.lt hx g hg
 obtain ⟨c, t, f, h2⟩ := cell_cells hu
 exact heap_lt h2
theorem BIn.own {w w' : World} {s : Nat} {mv : Value} {σ : Sg} {v : Value} {xs : List Int} (hx : BIn w v xs) (h : Stor w s mv σ) (hk : Kept (Own s mv) w w') (hs : xs ≠ [] → ∀ g, v.ownBlock = some g → g ≠ s) : BIn w' v xs :=
 hx.kept2 hk (fun hx0 g hg => by
  obtain ⟨i, u, hu⟩ := hx.lt hx0 g hg
  obtain ⟨c, t, f, h2⟩ := cell_cells hu
  exact cells_not_map (r := 0) h2 h (hs hx0 g hg))
theorem zz_eq (W : World) : (Op.equalIn 10000 29 (.agg z32) (.agg z32)).run Tryz.prog W = .ok true W := by
 have := run_eq_arr W 9998 29 32 zeros32 zeros32 Tryz.underlying29 rfl rfl
 rw [decide_eq_true rfl] at this
 exact this
theorem one_first {B W0 k : Nat} {d xs : List Int} {mv : Value} {σ' : Sg} (h : LayOk B (Sg.new (k : Int) 67108864).put1 σ' d xs) (hm : ∀ r, mv = .map (some r) → W0 ≤ r) : One W0 k d xs mv σ' := by
 obtain ⟨bv, born, rfl⟩ := lay_empty h rfl
 exact ⟨rfl, rfl, by show (0 : Int) + ((xs.length : Int) + 32) = _; omega, ⟨by show (0 : Int) ≤ 0 + 1; decide, by show (0 : Int) + 1 ≤ 2; decide⟩, rfl, rfl, ⟨bv, _, born, rfl⟩, hm⟩
theorem One.used {W0 k : Nat} {d ys xs : List Int} {mv : Value} {σ : Sg} (h : One W0 k d ys mv σ) : usedOf σ d xs = (xs.length : Int) + 32 := by
 obtain ⟨e, he, hx⟩ := h.look
 unfold usedOf
 rw [he]
 show σ.us + ((xs.length : Int) + 32) - ((e.xs.length : Int) + 32) = _
 rw [hx, h.us]
 omega
theorem One.used2 {W0 k : Nat} {d ys d' xs : List Int} {mv : Value} {σ : Sg} (h : One W0 k d ys mv σ) (hd : d' ≠ d) : usedOf σ d' xs = (ys.length : Int) + 32 + ((xs.length : Int) + 32) := by
 unfold usedOf
 rw [h.none hd, h.us]
 simp
theorem one_next {B W0 k : Nat} {d ys xs : List Int} {mv mv' : Value} {σ σ' : Sg} (ho : One W0 k d ys mv σ) (hsp : σ.sp ≤ 1) (h : LayOk B σ σ' d xs) (hm : ∀ r, mv' = .map (some r) → W0 ≤ r) : One W0 k d xs mv' σ' := by
 have hu := ho.used (xs := xs)
 obtain ⟨bv, born, _, rfl⟩ := h
 obtain ⟨bv0, st0, born0, he⟩ := ho.es
 refine ⟨ho.wd, ho.cp, hu, ⟨?_, ?_⟩, ho.gt, ho.pt, ⟨bv, σ.sp + 1, born0, ?_⟩, hm⟩
 ·have := ho.sp.1
  show 0 ≤ σ.sp + 1
  omega
 ·show σ.sp + 1 ≤ 2
  omega
 ·show lays σ.es _ = _
  rw [he, lays, if_pos rfl]
theorem One.put1 {W0 k : Nat} {d ys : List Int} {mv : Value} {σ : Sg} (h : One W0 k d ys mv σ) : σ.put1.es = σ.es ∧ σ.put1.us = σ.us ∧ σ.put1.wd = σ.wd ∧ σ.put1.gt = σ.gt := ⟨rfl, rfl, rfl, rfl⟩
end Go.Proofs.YtjdbmjkidljhpaaGreatDoor
namespace Go.Proofs.YtjdbmjkidljhpaaGreatDoor
open Go.RowKit
set_option linter.unusedVariables false
set_option linter.unusedSimpArgs false
set_option maxRecDepth 100000
theorem zer_list (n : Nat) : ∃ ys : List Int, ys.length = n ∧ (∀ y ∈ ys, 0 ≤ y ∧ y < 256) ∧ zer n = (ys.map (Value.int .u8)).toArray :=
 ⟨List.replicate n 0, List.length_replicate, fun y hy => by rw [List.eq_of_mem_replicate hy]; decide, row_list (zer_size n) List.length_replicate (fun j hj => by rw [zer_at n j hj]; simp [List.getD, hj])⟩
/-- So many bytes in one block, at its front. -/
structure Mega (w : World) (b n : Nat) (ys : List Int) : Prop where
 len : ys.length = n
 rng : ∀ y ∈ ys, 0 ≤ y ∧ y < 256
 blk : w.heap[b]? = some (.cells (ys.map (Value.int .u8)).toArray 5 (0, 0))
theorem Mega.lt {w : World} {b n : Nat} {ys : List Int} (h : Mega w b n ys) : b < w.heap.size := heap_lt h.blk
theorem Mega.kept {S : Nat → Prop} {w w' : World} {b n : Nat} {ys : List Int} (h : Mega w b n ys) (hk : Kept S w w') (hs : ¬ S b) : Mega w' b n ys := ⟨h.len, h.rng, (hk.block b h.lt hs).trans h.blk⟩
theorem Mega.there {w : World} {b n k : Nat} {ys : List Int} (h : Mega w b n ys) (hk : k < n) : (∃ u, w.cell? ⟨b, k, none⟩ = some u) ∧ w.frozen? ⟨b, k, none⟩ = false := by
 refine ⟨⟨.int .u8 (ys[k]'(by rw [h.len]; exact hk)), ?_⟩, frozen_block _ _ _ _ _ h.blk⟩
 rw [cell_block _ _ _ _ _ _ h.blk]
 simp [List.getElem?_eq_getElem (show k < ys.length by rw [h.len]; exact hk)]
theorem Mega.step {w : World} {b n k : Nat} {ys : List Int} (h : Mega w b n ys) (x : Int) (hx : 0 ≤ x ∧ x < 256) : Mega (w.setCell ⟨b, k, none⟩ (.int .u8 x)) b n (ys.set k x) := by
 refine ⟨by rw [List.length_set, h.len], fun y hy => ?_, ?_⟩
 ·rcases List.mem_or_eq_of_mem_set hy with h' | h'
  ·exact h.rng y h'
  ·rw [h']; exact hx
 ·rw [set_block _ _ _ _ _ _ h.blk]
  simp [List.map_set]
theorem Mega.bin {w : World} {b n : Nat} {ys : List Int} (h : Mega w b n ys) : BIn w (.slice (some ⟨b, 0, none⟩) n n) ys := by
 refine ⟨_, n, by rw [h.len], by rw [h.len]; exact Nat.le_refl _, .inr ⟨b, 0, rfl, fun i hi => ?_⟩⟩
 rw [cell_block _ _ _ _ _ _ h.blk, Nat.zero_add]
 simp [List.getD, List.getElem?_eq_getElem hi]
theorem Mega.own {w : World} {b n : Nat} {ys : List Int} (h : Mega w b n ys) (hn : n ≤ maxLen) : w.ownsRow b 5 1 (.slice (some ⟨b, 0, none⟩) n n) n (ys.map (Value.int .u8)) :=
 ⟨by rw [List.length_map, h.len, Nat.mul_one], .inr ⟨b, n, _, rfl, Nat.le_refl _, h.blk, Nat.le_refl _, hn, by rw [List.size_toArray, List.length_map, h.len, Nat.mul_one], by rw [Nat.mul_one]; exact List.take_of_length_le (by rw [List.length_map, h.len]; exact Nat.le_refl _)⟩⟩
theorem Stor.kept3 {S : Nat → Prop} {w w' : World} {s : Nat} {mv : Value} {σ : Sg} (h : Stor w s mv σ) (hk : Kept S w w') (hs : ¬ S s) (hm : ∀ r, mv = .map (some r) → ¬ S r) (hb : ∀ e ∈ σ.es, e.xs ≠ [] → ∀ g, e.bv.ownBlock = some g → ¬ S g) : Stor w' s mv σ := by
 refine ⟨(hk.block s h.lt hs).trans h.blk, ?_, h.key, fun e he => ?_⟩
 ·rcases h.map with h1 | ⟨r, c, h1, h2, h3⟩
  ·exact .inl h1
  ·exact .inr ⟨r, c, h1, (hk.block r (heap_lt h2) (hm r h1)).trans h2, h3⟩
 ·obtain ⟨h1, h2, h3, h4⟩ := h.blob e he
  exact ⟨h1.kept2 hk (hb e he), h2, h3, h4⟩
/-- Bytes lie in no Store's own block. -/
theorem Stor.nobytes {w : World} {t : Nat} {mv : Value} {σ : Sg} (h : Stor w t mv σ) (hmv : ∃ r, mv = .map r) {v : Value} {xs : List Int} (hx : BIn w v xs) (h0 : xs ≠ []) : ∀ g, v.ownBlock = some g → g ≠ t := by
 intro g hg e
 subst e
 obtain ⟨ao, c, rfl, hc, h1⟩ := hx
 rcases h1 with h1 | ⟨b, o, rfl, h1⟩
 ·exact h0 h1
 ·obtain rfl : b = g := by simpa [Value.ownBlock] using hg
  have hl : 0 < xs.length := List.length_pos_iff.2 h0
  have := h1 0 hl
  rw [cell_block _ _ _ _ _ _ h.blk] at this
  obtain ⟨hlt, hv⟩ := Array.getElem?_eq_some_iff.1 this
  obtain ⟨r, rfl⟩ := hmv
  have hm := Array.getElem_mem hlt
  rw [hv] at hm
  simp [Sg.cells] at hm
theorem Stor.ismap {w : World} {t : Nat} {mv : Value} {σ : Sg} (h : Stor w t mv σ) : ∃ r, mv = .map r := by
 rcases h.map with ⟨h1, _⟩ | ⟨r, c, h1, _⟩
 ·exact ⟨_, h1⟩
 ·exact ⟨_, h1⟩
/-- What one Store's own block comes to leaves the other. -/
theorem Stor.beside {w w' : World} {s t : Nat} {mv mv' : Value} {σ τ : Sg} (h : Stor w s mv σ) (g : Stor w t mv' τ) (hst : s ≠ t) (hk : Kept (fun k => k = t) w w') : Stor w' s mv σ :=
 h.kept3 hk hst (fun r hr e => by
  subst e
  rcases h.map with ⟨h1, _⟩ | ⟨r', c, h1, h2, h3⟩
  ·rw [h1] at hr; cases hr
  ·rw [h1] at hr
   cases hr
   rw [g.blk] at h2
   cases h2) (fun e he h0 q hq => g.nobytes g.ismap (h.blob e he).1 h0 q hq)
theorem own_none {s : Nat} {w w' : World} (h : Kept (Own s (.map none)) w w') : Kept (fun k => k = s) w w' := h.mono (fun k _ hk => by
 rcases hk with hk | hk
 ·exact hk
 ·cases hk)
theorem sub_bin {ao : Option Addr} {n c : Nat} {xs : List Int} {W : World} (hB : BIn W (.slice ao n c) xs) (hn : xs.length = n) (hi : Nat) (h2 : hi ≤ n) : BIn W (sliced ao 0 hi c 1) (xs.take hi) := by
 obtain ⟨ao', c', h, hc, hx⟩ := hB
 cases h
 have hl : (xs.take hi).length = hi := by simp; omega
 unfold sliced
 by_cases e : hi = 0
 ·subst e
  refine ⟨_, _, by rw [hl], by omega, .inl rfl⟩
 ·rcases hx with rfl | ⟨b, o, rfl, hx⟩
  ·simp at h2
   omega
  ·refine ⟨some ⟨b, o, none⟩, c, by rw [hl, if_neg (by omega)]; simp [Addr.add], by omega, .inr ⟨b, o, rfl, fun i hi' => ?_⟩⟩
   rw [hl] at hi'
   rw [hx i (by omega)]
   simp [List.getD, List.getElem?_take, hi']
theorem elem26 : Tryz.prog.underlying 27 = some (.slice (Tryz.prog.elem 27)) := by kernel_rfl
theorem sizeE26 (W : World) : (sizeOf (Tryz.prog.elem 27)).run Tryz.prog W = .ok 1 W := by
 rw [show Tryz.prog.elem 27 = 5 by kernel_rfl]
 exact Tryz.sizeOf5 W
theorem sub_h (ao : Option Addr) (n c : Nat) (h : Int) (h0 : 0 ≤ h) (h2 : h ≤ (c : Int)) (W : World) : (Instr.slice 27 (.slice ao n c) none (some (.int .i64 h)) none).run Tryz.prog W = .ok (sliced ao 0 h.toNat c 1) W := by
 rw [run_slice_h W 27 ao n c elem26 .i64 h h0 h2, sizeE26]
 rfl
/-- A list's front, as its slicing lays it. -/
theorem front_of {ao : Option Addr} {c : Nat} {xs : List Int} {W : World} (hB : BIn W (.slice ao xs.length c) xs) (m : Nat) (hm : m ≤ xs.length) : ∃ po pc, (∀ W' : World, (Instr.slice 27 (.slice ao xs.length c) none (some (.int .i64 (m : Int))) none).run Tryz.prog W' = .ok (.slice po (xs.take m).length pc) W') ∧ (∀ W' : World, BIn W' (.slice ao xs.length c) xs → BIn W' (.slice po (xs.take m).length pc) (xs.take m)) ∧ (∀ g, (Value.slice po (xs.take m).length pc).ownBlock = some g → (Value.slice ao xs.length c).ownBlock = some g) := by
 have hc : xs.length ≤ c := by
  obtain ⟨_, _, h, hc, _⟩ := hB
  cases h
  exact hc
 have hs := fun W' : World => sub_h ao xs.length c (m : Int) (by omega) (by omega) W'
 have hb := fun (W' : World) (h : BIn W' (.slice ao xs.length c) xs) => sub_bin h rfl m hm
 obtain ⟨po, pc, he, _, _⟩ := id (hb W hB)
 rw [Int.toNat_natCast, he] at hs
 rw [he] at hb
 refine ⟨po, pc, hs, hb, fun g hg => ?_⟩
 unfold sliced at he
 cases ao with
 | none => simp at he; rw [← he.1] at hg; cases hg
 | some a => simp at he; rw [← he.1] at hg; revert hg; split <;> simp [Value.ownBlock, Addr.add]
/-- After the Put: what the Store knows. -/
structure Big1 (b : Nat) (d ys : List Int) (σ : Sg) : Prop where
 wd : σ.wd = 32
 cp : σ.cp = 1048608
 us : σ.us = 1048608
 gt : σ.gt = 0
 pt : σ.pt = 1
 whole : wholeB 32 σ.es d = true
 raw : rawX σ.es d = ys
 off : ∀ e ∈ σ.es, e.xs ≠ [] → ∀ g, e.bv.ownBlock = some g → g ≠ b
theorem big_first {B b : Nat} {ys : List Int} {σ' : Sg} (h : LayOk B (Sg.new 32 1048608).put1 σ' (frontOf 32 ys) ys) (hl : ys.length = 1048576) (hb : b < B) : Big1 b (frontOf 32 ys) ys σ' := by
 obtain ⟨bv, born, hB, rfl⟩ := h
 refine ⟨rfl, rfl, ?_, rfl, rfl, ?_, ?_, fun e he h0 g hg => ?_⟩
 ·show usedOf (Sg.new 32 1048608).put1 (frontOf 32 ys) ys = _
  rw [used_empty _ _ _ rfl, hl]
  rfl
 ·show wholeB 32 [⟨frontOf 32 ys, bv, ys, _, born⟩] _ = true
  unfold wholeB
  rw [look_one]
  exact decide_eq_true rfl
 ·show rawX [⟨frontOf 32 ys, bv, ys, _, born⟩] _ = ys
  unfold rawX
  rw [look_one]
 ·have he' : e ∈ [(⟨frontOf 32 ys, bv, ys, (Sg.new 32 1048608).put1.sp + 1, born⟩ : En)] := he
  rw [List.mem_singleton.1 he'] at hg
  have := hB g hg
  omega
def one32 : List Int := 1 :: List.replicate 31 0
theorem one32_fit : fitsL one32 32 = true := by decide +kernel
end Go.Proofs.YtjdbmjkidljhpaaGreatDoor

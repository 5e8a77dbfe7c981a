/-
 World.step, by contract.
-/
import Derived.Test.YtjdbmjkidljhpaaGreatDoorTWa
import Derived.Test.YtjdbmjkidljhpaaGreatDoorTWk
namespace Go.Proofs.YtjdbmjkidljhpaaGreatDoor
open Go.RowKit
set_option linter.unusedVariables false
set_option linter.unusedSimpArgs false
set_option maxRecDepth 100000
theorem WdTo.pre {w w1 w5 : World} {lo k n g s : Nat} {mv : Value} {σ : Sg} {r : Nat} {lv : Value} {ρ : Rg} {iv : Value} (h : WdTo w1 w5 lo k n g s mv σ r lv ρ iv) (hk : Kept (fun _ => False) w w1) : WdTo w w5 lo k n g s mv σ r lv ρ iv := by
 obtain ⟨a, b, c, d, e, f, g', h1, h2, h3, h4⟩ := h
 have hs := hk.size
 refine ⟨a, b, c, d, e, f, g', h1, (hk.mono (fun _ _ f => f.elim)).trans h2, fun q hq => ?_, fun q hq => ?_⟩
 ·rcases h3 q hq with h | h
  ·exact .inl h
  ·exact .inr (by omega)
 ·rcases h4 q hq with h | h
  ·exact .inl h
  ·exact .inr (by omega)
theorem eq38 (a b : Int) (W : World) : (binOp .eql 38 (.agg #[.int .i64 a, .int .i64 b]) (.agg #[.int .i64 a, .int .i64 b])).run Tryz.prog W = .ok (.bool true) W := by
 go_simp
/-- What a step's walk knows behind its first region. -/
structure StepS (w wA : World) (lo k n g s : Nat) (mv : Value) (σ : Sg) (r : Nat) (lv : Value) (ρ : Rg) (iv : Value) (p : Nat) (N : Int) : Prop where
 two : Two wA lo k n s mv σ r lv ρ
 gs : ∀ W, Kept (OwnT s mv r lv) wA W → W.cell? ⟨g, 0, none⟩ = some (.pointer (some ⟨s, 0, none⟩)) ∧ W.cell? ⟨g, 1, none⟩ = some (.pointer (some ⟨r, 0, none⟩)) ∧ W.cell? ⟨p, 36, none⟩ = some (.int .i64 N)
 fin : ∀ w5 n', TwoTo wA w5 lo k n' s mv σ r lv ρ → WdTo w w5 lo k n' g s mv σ r lv ρ iv
theorem StepS.mk' {w : World} {lo k n g s : Nat} {mv : Value} {σ : Sg} {r : Nat} {lv : Value} {ρ : Rg} {iv : Value} {m : Nat} (h : Wd w lo k n g s mv σ r lv ρ iv m) {wA : World} (hkA : Kept (fun _ => False) w wA) {p : Nat} {N : Int} (hq : wA.cell? ⟨p, 36, none⟩ = some (.int .i64 N)) (hq0 : w.heap.size ≤ p) : StepS w wA lo k n g s mv σ r lv ρ iv p N := by
 have hB := h.same hkA
 refine ⟨hB.two, fun W hW => ⟨hW.cell (cell_block _ g 0 _ _ _ hB.blk) hB.goff, hW.cell (cell_block _ g 1 _ _ _ hB.blk) hB.goff, hW.cell hq (fun e => ?_)⟩, fun w5 n' ht => h.called hkA ht⟩
 have e' : p < w.heap.size := h.two.olt _ e
 omega
set_option maxHeartbeats 16000000 in
theorem wstep_one {w : World} {lo k n g s : Nat} {mv : Value} {σ : Sg} {r : Nat} {lv : Value} {ρ : Rg} {iv : Value} {m : Nat} (h : Wd w lo k n g s mv σ r lv ρ iv m) (hn : n ≤ 900000) (t : Stp) (ht : t.Ok w) (hlow : Low lo t) (hbl : t.xs.length ≤ 8192) (hcl : t.ys.length ≤ 8192) (hkd : t.kd = 1) :
  Calls Tryz.prog 6 #[.pointer (some ⟨g, 0, none⟩), .agg t.cells.toArray] w fun e w' => e = .returned (.bool true) ∧ WdTo w w' lo k (n + 2) g s mv σ r lv ρ iv := by
 obtain ⟨bo, bc, co, cc, hbv, hcv, hc⟩ := Stp.st ht
 have hkA : Kept (fun _ => False) w (w.alloc (.cells t.cells.toArray 31)) := (Kept.refl _ w).alloc _
 have HPUT := hid_of (wput_one (h.same hkA) hn t (ht.kept hlow hkA (fun _ _ f => f)) hlow hbl hcl hkd)
 generalize t.cells.toArray = cs at *
 have HBB : Hid ((w.alloc (.cells cs 31)).heap[w.heap.size]? = some (.cells cs 31 (0, 0))) := alloc_new _ _ rfl
 have HC := hid_of hc
 have HW := hid_of h
 have HKA := hid_of hkA
 have HTO := hid_of ht
 clear hkA hc ht h
 go_enter Tryz.func6, Tryz.ntmps6
 go_upto_region 1 with fail
 generalize w.alloc (.cells cs 31) = wA at *
 obtain ⟨p, hp⟩ : ∃ q, q = w.heap.size := ⟨_, rfl⟩
 rw [← hp] at HBB
 try rw [← hp]
 have HP0 : Hid (w.heap.size ≤ p) := by show _ ≤ p; omega
 clear hp
 have c0 := (cell_block _ _ 0 _ _ _ HBB.out).trans HC.out.kd
 have c1 := (cell_block _ _ 1 _ _ _ HBB.out).trans HC.out.bv
 have c2 := (cell_block _ _ 2 _ _ _ HBB.out).trans HC.out.cv
 have HPS := hid_of (StepS.mk' HW.out HKA.out ((cell_block _ _ 36 _ _ _ HBB.out).trans HC.out.n) HP0.out)
 have hxI : ¬ ((8192 : Int) < (t.xs.length : Int)) := by omega
 have hyI : ¬ ((8192 : Int) < (t.ys.length : Int)) := by omega
 rw [hkd] at c0
 go_wp2_with (refine wpList_load_row rfl 31 _ rfl p rfl 31 cs (0, 0) _ HBB.out Tryz.underlying31 rfl HC.out.size ?_)
 refine HPUT.out.mono ?_
 rintro e w5 ⟨rfl, hto⟩
 have HFI := hid_of (hto.pre HKA.out)
 clear hto HPUT
 go_wp2
 go_ret
 exact ⟨rfl, HFI.out⟩
set_option maxHeartbeats 16000000 in
theorem wstep_six {w : World} {lo k n g s : Nat} {mv : Value} {σ : Sg} {r : Nat} {lv : Value} {ρ : Rg} {iv : Value} {m : Nat} (h : Wd w lo k n g s mv σ r lv ρ iv m) (hn : n ≤ 900000) (t : Stp) (ht : t.Ok w) (hlow : Low lo t) (hbl : t.xs.length ≤ 8192) (hcl : t.ys.length ≤ 8192) (hkd : t.kd = 6) :
  Calls Tryz.prog 6 #[.pointer (some ⟨g, 0, none⟩), .agg t.cells.toArray] w fun e w' => e = .returned (.bool true) ∧ WdTo w w' lo k (n + 2) g s mv σ r lv ρ iv := by
 obtain ⟨bo, bc, co, cc, hbv, hcv, hc⟩ := Stp.st ht
 have hkA : Kept (fun _ => False) w (w.alloc (.cells t.cells.toArray 31)) := (Kept.refl _ w).alloc _
 have HPUT := hid_of (wput_six (h.same hkA) hn t (ht.kept hlow hkA (fun _ _ f => f)) hlow hbl hcl hkd)
 generalize t.cells.toArray = cs at *
 have HBB : Hid ((w.alloc (.cells cs 31)).heap[w.heap.size]? = some (.cells cs 31 (0, 0))) := alloc_new _ _ rfl
 have HC := hid_of hc
 have HW := hid_of h
 have HKA := hid_of hkA
 have HTO := hid_of ht
 clear hkA hc ht h
 go_enter Tryz.func6, Tryz.ntmps6
 go_upto_region 1 with fail
 generalize w.alloc (.cells cs 31) = wA at *
 obtain ⟨p, hp⟩ : ∃ q, q = w.heap.size := ⟨_, rfl⟩
 rw [← hp] at HBB
 try rw [← hp]
 have HP0 : Hid (w.heap.size ≤ p) := by show _ ≤ p; omega
 clear hp
 have c0 := (cell_block _ _ 0 _ _ _ HBB.out).trans HC.out.kd
 have c1 := (cell_block _ _ 1 _ _ _ HBB.out).trans HC.out.bv
 have c2 := (cell_block _ _ 2 _ _ _ HBB.out).trans HC.out.cv
 have HPS := hid_of (StepS.mk' HW.out HKA.out ((cell_block _ _ 36 _ _ _ HBB.out).trans HC.out.n) HP0.out)
 have hxI : ¬ ((8192 : Int) < (t.xs.length : Int)) := by omega
 have hyI : ¬ ((8192 : Int) < (t.ys.length : Int)) := by omega
 rw [hkd] at c0
 go_wp2_with (refine wpList_load_row rfl 31 _ rfl p rfl 31 cs (0, 0) _ HBB.out Tryz.underlying31 rfl HC.out.size ?_)
 refine HPUT.out.mono ?_
 rintro e w5 ⟨rfl, hto⟩
 have HFI := hid_of (hto.pre HKA.out)
 clear hto HPUT
 go_wp2
 go_ret
 exact ⟨rfl, HFI.out⟩
set_option maxHeartbeats 16000000 in
theorem wstep_twelve {w : World} {lo k n g s : Nat} {mv : Value} {σ : Sg} {r : Nat} {lv : Value} {ρ : Rg} {iv : Value} {m : Nat} (h : Wd w lo k n g s mv σ r lv ρ iv m) (hn : n ≤ 900000) (t : Stp) (ht : t.Ok w) (hlow : Low lo t) (hbl : t.xs.length ≤ 8192) (hcl : t.ys.length ≤ 8192) (hkd : t.kd = 12) :
  Calls Tryz.prog 6 #[.pointer (some ⟨g, 0, none⟩), .agg t.cells.toArray] w fun e w' => e = .returned (.bool true) ∧ WdTo w w' lo k (n + 2) g s mv σ r lv ρ iv := by
 obtain ⟨bo, bc, co, cc, hbv, hcv, hc⟩ := Stp.st ht
 have hkA : Kept (fun _ => False) w (w.alloc (.cells t.cells.toArray 31)) := (Kept.refl _ w).alloc _
 have HPUT := hid_of (wput_twelve (h.same hkA) hn t (ht.kept hlow hkA (fun _ _ f => f)) hlow hbl hcl hkd)
 generalize t.cells.toArray = cs at *
 have HBB : Hid ((w.alloc (.cells cs 31)).heap[w.heap.size]? = some (.cells cs 31 (0, 0))) := alloc_new _ _ rfl
 have HC := hid_of hc
 have HW := hid_of h
 have HKA := hid_of hkA
 have HTO := hid_of ht
 clear hkA hc ht h
 go_enter Tryz.func6, Tryz.ntmps6
 go_upto_region 1 with fail
 generalize w.alloc (.cells cs 31) = wA at *
 obtain ⟨p, hp⟩ : ∃ q, q = w.heap.size := ⟨_, rfl⟩
 rw [← hp] at HBB
 try rw [← hp]
 have HP0 : Hid (w.heap.size ≤ p) := by show _ ≤ p; omega
 clear hp
 have c0 := (cell_block _ _ 0 _ _ _ HBB.out).trans HC.out.kd
 have c1 := (cell_block _ _ 1 _ _ _ HBB.out).trans HC.out.bv
 have c2 := (cell_block _ _ 2 _ _ _ HBB.out).trans HC.out.cv
 have HPS := hid_of (StepS.mk' HW.out HKA.out ((cell_block _ _ 36 _ _ _ HBB.out).trans HC.out.n) HP0.out)
 have hxI : ¬ ((8192 : Int) < (t.xs.length : Int)) := by omega
 have hyI : ¬ ((8192 : Int) < (t.ys.length : Int)) := by omega
 rw [hkd] at c0
 go_wp2_with (refine wpList_load_row rfl 31 _ rfl p rfl 31 cs (0, 0) _ HBB.out Tryz.underlying31 rfl HC.out.size ?_)
 refine HPUT.out.mono ?_
 rintro e w5 ⟨rfl, hto⟩
 have HFI := hid_of (hto.pre HKA.out)
 clear hto HPUT
 go_wp2
 go_ret
 exact ⟨rfl, HFI.out⟩
set_option maxHeartbeats 16000000 in
theorem wstep_two {w : World} {lo k n g s : Nat} {mv : Value} {σ : Sg} {r : Nat} {lv : Value} {ρ : Rg} {iv : Value} {m : Nat} (h : Wd w lo k n g s mv σ r lv ρ iv m) (hn : n ≤ 900000) (t : Stp) (ht : t.Ok w) (hlow : Low lo t) (hbl : t.xs.length ≤ 8192) (hcl : t.ys.length ≤ 8192) (hkd : t.kd = 2) :
  Calls Tryz.prog 6 #[.pointer (some ⟨g, 0, none⟩), .agg t.cells.toArray] w fun e w' => e = .returned (.bool true) ∧ WdTo w w' lo k (n + 2) g s mv σ r lv ρ iv := by
 obtain ⟨bo, bc, co, cc, hbv, hcv, hc⟩ := Stp.st ht
 have hkA : Kept (fun _ => False) w (w.alloc (.cells t.cells.toArray 31)) := (Kept.refl _ w).alloc _
 have HPUT := hid_of (wask_two (h.same hkA) hn t (ht.kept hlow hkA (fun _ _ f => f)) hlow hbl hcl hkd)
 generalize t.cells.toArray = cs at *
 have HBB : Hid ((w.alloc (.cells cs 31)).heap[w.heap.size]? = some (.cells cs 31 (0, 0))) := alloc_new _ _ rfl
 have HC := hid_of hc
 have HW := hid_of h
 have HKA := hid_of hkA
 have HTO := hid_of ht
 clear hkA hc ht h
 go_enter Tryz.func6, Tryz.ntmps6
 go_upto_region 1 with fail
 generalize w.alloc (.cells cs 31) = wA at *
 obtain ⟨p, hp⟩ : ∃ q, q = w.heap.size := ⟨_, rfl⟩
 rw [← hp] at HBB
 try rw [← hp]
 have HP0 : Hid (w.heap.size ≤ p) := by show _ ≤ p; omega
 clear hp
 have c0 := (cell_block _ _ 0 _ _ _ HBB.out).trans HC.out.kd
 have c1 := (cell_block _ _ 1 _ _ _ HBB.out).trans HC.out.bv
 have c2 := (cell_block _ _ 2 _ _ _ HBB.out).trans HC.out.cv
 have HPS := hid_of (StepS.mk' HW.out HKA.out ((cell_block _ _ 36 _ _ _ HBB.out).trans HC.out.n) HP0.out)
 have hxI : ¬ ((8192 : Int) < (t.xs.length : Int)) := by omega
 have hyI : ¬ ((8192 : Int) < (t.ys.length : Int)) := by omega
 rw [hkd] at c0
 go_wp2_with (refine wpList_load_row rfl 31 _ rfl p rfl 31 cs (0, 0) _ HBB.out Tryz.underlying31 rfl HC.out.size ?_)
 refine HPUT.out.mono ?_
 rintro e w5 ⟨rfl, hto⟩
 have HFI := hid_of (hto.pre HKA.out)
 clear hto HPUT
 go_wp2
 go_ret
 exact ⟨rfl, HFI.out⟩
set_option maxHeartbeats 16000000 in
theorem wstep_three {w : World} {lo k n g s : Nat} {mv : Value} {σ : Sg} {r : Nat} {lv : Value} {ρ : Rg} {iv : Value} {m : Nat} (h : Wd w lo k n g s mv σ r lv ρ iv m) (hn : n ≤ 900000) (t : Stp) (ht : t.Ok w) (hlow : Low lo t) (hbl : t.xs.length ≤ 8192) (hcl : t.ys.length ≤ 8192) (hkd : t.kd = 3) :
  Calls Tryz.prog 6 #[.pointer (some ⟨g, 0, none⟩), .agg t.cells.toArray] w fun e w' => e = .returned (.bool true) ∧ WdTo w w' lo k (n + 2) g s mv σ r lv ρ iv := by
 obtain ⟨bo, bc, co, cc, hbv, hcv, hc⟩ := Stp.st ht
 have hkA : Kept (fun _ => False) w (w.alloc (.cells t.cells.toArray 31)) := (Kept.refl _ w).alloc _
 have HPUT := hid_of (wask_three (h.same hkA) hn t (ht.kept hlow hkA (fun _ _ f => f)) hlow hbl hcl hkd)
 generalize t.cells.toArray = cs at *
 have HBB : Hid ((w.alloc (.cells cs 31)).heap[w.heap.size]? = some (.cells cs 31 (0, 0))) := alloc_new _ _ rfl
 have HC := hid_of hc
 have HW := hid_of h
 have HKA := hid_of hkA
 have HTO := hid_of ht
 clear hkA hc ht h
 go_enter Tryz.func6, Tryz.ntmps6
 go_upto_region 1 with fail
 generalize w.alloc (.cells cs 31) = wA at *
 obtain ⟨p, hp⟩ : ∃ q, q = w.heap.size := ⟨_, rfl⟩
 rw [← hp] at HBB
 try rw [← hp]
 have HP0 : Hid (w.heap.size ≤ p) := by show _ ≤ p; omega
 clear hp
 have c0 := (cell_block _ _ 0 _ _ _ HBB.out).trans HC.out.kd
 have c1 := (cell_block _ _ 1 _ _ _ HBB.out).trans HC.out.bv
 have c2 := (cell_block _ _ 2 _ _ _ HBB.out).trans HC.out.cv
 have HPS := hid_of (StepS.mk' HW.out HKA.out ((cell_block _ _ 36 _ _ _ HBB.out).trans HC.out.n) HP0.out)
 have hxI : ¬ ((8192 : Int) < (t.xs.length : Int)) := by omega
 have hyI : ¬ ((8192 : Int) < (t.ys.length : Int)) := by omega
 rw [hkd] at c0
 go_wp2_with (refine wpList_load_row rfl 31 _ rfl p rfl 31 cs (0, 0) _ HBB.out Tryz.underlying31 rfl HC.out.size ?_)
 refine HPUT.out.mono ?_
 rintro e w5 ⟨rfl, hto⟩
 have HFI := hid_of (hto.pre HKA.out)
 clear hto HPUT
 go_wp2
 go_ret
 exact ⟨rfl, HFI.out⟩
set_option maxHeartbeats 16000000 in
theorem wstep_four {w : World} {lo k n g s : Nat} {mv : Value} {σ : Sg} {r : Nat} {lv : Value} {ρ : Rg} {iv : Value} {m : Nat} (h : Wd w lo k n g s mv σ r lv ρ iv m) (hn : n ≤ 900000) (t : Stp) (ht : t.Ok w) (hlow : Low lo t) (hbl : t.xs.length ≤ 8192) (hcl : t.ys.length ≤ 8192) (hkd : t.kd = 4) :
  Calls Tryz.prog 6 #[.pointer (some ⟨g, 0, none⟩), .agg t.cells.toArray] w fun e w' => e = .returned (.bool true) ∧ WdTo w w' lo k (n + 2) g s mv σ r lv ρ iv := by
 obtain ⟨bo, bc, co, cc, hbv, hcv, hc⟩ := Stp.st ht
 have hkA : Kept (fun _ => False) w (w.alloc (.cells t.cells.toArray 31)) := (Kept.refl _ w).alloc _
 have HPUT := hid_of (wask_four (h.same hkA) hn t (ht.kept hlow hkA (fun _ _ f => f)) hlow hbl hcl hkd)
 generalize t.cells.toArray = cs at *
 have HBB : Hid ((w.alloc (.cells cs 31)).heap[w.heap.size]? = some (.cells cs 31 (0, 0))) := alloc_new _ _ rfl
 have HC := hid_of hc
 have HW := hid_of h
 have HKA := hid_of hkA
 have HTO := hid_of ht
 clear hkA hc ht h
 go_enter Tryz.func6, Tryz.ntmps6
 go_upto_region 1 with fail
 generalize w.alloc (.cells cs 31) = wA at *
 obtain ⟨p, hp⟩ : ∃ q, q = w.heap.size := ⟨_, rfl⟩
 rw [← hp] at HBB
 try rw [← hp]
 have HP0 : Hid (w.heap.size ≤ p) := by show _ ≤ p; omega
 clear hp
 have c0 := (cell_block _ _ 0 _ _ _ HBB.out).trans HC.out.kd
 have c1 := (cell_block _ _ 1 _ _ _ HBB.out).trans HC.out.bv
 have c2 := (cell_block _ _ 2 _ _ _ HBB.out).trans HC.out.cv
 have HPS := hid_of (StepS.mk' HW.out HKA.out ((cell_block _ _ 36 _ _ _ HBB.out).trans HC.out.n) HP0.out)
 have hxI : ¬ ((8192 : Int) < (t.xs.length : Int)) := by omega
 have hyI : ¬ ((8192 : Int) < (t.ys.length : Int)) := by omega
 rw [hkd] at c0
 go_wp2_with (refine wpList_load_row rfl 31 _ rfl p rfl 31 cs (0, 0) _ HBB.out Tryz.underlying31 rfl HC.out.size ?_)
 refine HPUT.out.mono ?_
 rintro e w5 ⟨rfl, hto⟩
 have HFI := hid_of (hto.pre HKA.out)
 clear hto HPUT
 go_wp2
 go_ret
 exact ⟨rfl, HFI.out⟩
set_option maxHeartbeats 16000000 in
theorem wstep_five {w : World} {lo k n g s : Nat} {mv : Value} {σ : Sg} {r : Nat} {lv : Value} {ρ : Rg} {iv : Value} {m : Nat} (h : Wd w lo k n g s mv σ r lv ρ iv m) (hn : n ≤ 900000) (t : Stp) (ht : t.Ok w) (hlow : Low lo t) (hbl : t.xs.length ≤ 8192) (hcl : t.ys.length ≤ 8192) (hkd : t.kd = 5) :
  Calls Tryz.prog 6 #[.pointer (some ⟨g, 0, none⟩), .agg t.cells.toArray] w fun e w' => e = .returned (.bool true) ∧ WdTo w w' lo k (n + 2) g s mv σ r lv ρ iv := by
 obtain ⟨bo, bc, co, cc, hbv, hcv, hc⟩ := Stp.st ht
 have hkA : Kept (fun _ => False) w (w.alloc (.cells t.cells.toArray 31)) := (Kept.refl _ w).alloc _
 have HPUT := hid_of (wask_five (h.same hkA) hn t (ht.kept hlow hkA (fun _ _ f => f)) hlow hbl hcl hkd)
 generalize t.cells.toArray = cs at *
 have HBB : Hid ((w.alloc (.cells cs 31)).heap[w.heap.size]? = some (.cells cs 31 (0, 0))) := alloc_new _ _ rfl
 have HC := hid_of hc
 have HW := hid_of h
 have HKA := hid_of hkA
 have HTO := hid_of ht
 clear hkA hc ht h
 go_enter Tryz.func6, Tryz.ntmps6
 go_upto_region 1 with fail
 generalize w.alloc (.cells cs 31) = wA at *
 obtain ⟨p, hp⟩ : ∃ q, q = w.heap.size := ⟨_, rfl⟩
 rw [← hp] at HBB
 try rw [← hp]
 have HP0 : Hid (w.heap.size ≤ p) := by show _ ≤ p; omega
 clear hp
 have c0 := (cell_block _ _ 0 _ _ _ HBB.out).trans HC.out.kd
 have c1 := (cell_block _ _ 1 _ _ _ HBB.out).trans HC.out.bv
 have c2 := (cell_block _ _ 2 _ _ _ HBB.out).trans HC.out.cv
 have HPS := hid_of (StepS.mk' HW.out HKA.out ((cell_block _ _ 36 _ _ _ HBB.out).trans HC.out.n) HP0.out)
 have hxI : ¬ ((8192 : Int) < (t.xs.length : Int)) := by omega
 have hyI : ¬ ((8192 : Int) < (t.ys.length : Int)) := by omega
 rw [hkd] at c0
 go_wp2_with (refine wpList_load_row rfl 31 _ rfl p rfl 31 cs (0, 0) _ HBB.out Tryz.underlying31 rfl HC.out.size ?_)
 refine HPUT.out.mono ?_
 rintro e w5 ⟨rfl, hto⟩
 have HFI := hid_of (hto.pre HKA.out)
 clear hto HPUT
 go_wp2
 go_ret
 exact ⟨rfl, HFI.out⟩
set_option maxHeartbeats 16000000 in
theorem wstep_seven {w : World} {lo k n g s : Nat} {mv : Value} {σ : Sg} {r : Nat} {lv : Value} {ρ : Rg} {iv : Value} {m : Nat} (h : Wd w lo k n g s mv σ r lv ρ iv m) (hn : n ≤ 900000) (t : Stp) (ht : t.Ok w) (hlow : Low lo t) (hbl : t.xs.length ≤ 8192) (hcl : t.ys.length ≤ 8192) (hkd : t.kd = 7) :
  Calls Tryz.prog 6 #[.pointer (some ⟨g, 0, none⟩), .agg t.cells.toArray] w fun e w' => e = .returned (.bool true) ∧ WdTo w w' lo k (n + 2) g s mv σ r lv ρ iv := by
 obtain ⟨bo, bc, co, cc, hbv, hcv, hc⟩ := Stp.st ht
 have hkA : Kept (fun _ => False) w (w.alloc (.cells t.cells.toArray 31)) := (Kept.refl _ w).alloc _
 generalize t.cells.toArray = cs at *
 have HBB : Hid ((w.alloc (.cells cs 31)).heap[w.heap.size]? = some (.cells cs 31 (0, 0))) := alloc_new _ _ rfl
 have HC := hid_of hc
 have HW := hid_of h
 have HKA := hid_of hkA
 have HTO := hid_of ht
 clear hkA hc ht h
 go_enter Tryz.func6, Tryz.ntmps6
 go_upto_region 1 with fail
 generalize w.alloc (.cells cs 31) = wA at *
 obtain ⟨p, hp⟩ : ∃ q, q = w.heap.size := ⟨_, rfl⟩
 rw [← hp] at HBB
 try rw [← hp]
 have HP0 : Hid (w.heap.size ≤ p) := by show _ ≤ p; omega
 clear hp
 have c0 := (cell_block _ _ 0 _ _ _ HBB.out).trans HC.out.kd
 have c1 := (cell_block _ _ 1 _ _ _ HBB.out).trans HC.out.bv
 have c2 := (cell_block _ _ 2 _ _ _ HBB.out).trans HC.out.cv
 have HPS := hid_of (StepS.mk' HW.out HKA.out ((cell_block _ _ 36 _ _ _ HBB.out).trans HC.out.n) HP0.out)
 have hxI : ¬ ((8192 : Int) < (t.xs.length : Int)) := by omega
 have hyI : ¬ ((8192 : Int) < (t.ys.length : Int)) := by omega
 rw [hkd] at c0
 have HKD2 : Hid (Kept (fun _ => False) wA wA.drew) := (Kept.refl _ _).drew
 have HGE := hid_of (limit_two (HPS.out.two.same HKD2.out) t.n)
 go_upto_region 14 with fail
 clear c0 c1 c2
 refine wp_region_held_drew (S := fun w' => Kept (OwnT s mv r lv) wA w') (by kernel_rfl) ((Kept.refl _ _).drew) (fun hHeld => ?_)
 iterate 6
  refine tkn (v := ?_) 0 rfl ?_ ?_; rotate_left 1
  ·intro w hSw; obtain ⟨s1, s2, s3⟩ := HPS.out.gs w hSw; go_simp; try with_reducible rfl
  try simp only [Act.put, tdy]
 refine wpAnyH_ready (rs := [6]) (by kernel_rfl) (by simp) ?_
 refine AllReadyH.cons rfl (fun K hK => ?_) .nil
 go_simp
 refine (HGE.out).mono ?_
 rintro e w3 ⟨rfl, hk3, hnext⟩
 have HK23 : Hid (Kept (OwnT s mv r lv) wA w3) := (HKD2.out.mono (fun _ _ f => f.elim)).trans (hk3.mono (fun _ _ e => .inl e))
 have HNX := hid_of hnext
 clear hk3 hnext HGE
 refine hK.out _ _ HK23.out (fun hHeld => ?_)
 clear hK K
 try simp only [Act.put, tdy]
 refine tkp (v := ?_) 7 rfl ?_ ?_; rotate_left 1
 ·intro w hSw; obtain ⟨s1, s2, s3⟩ := HPS.out.gs w hSw; go_simp; try with_reducible rfl
 try simp only [Act.put, tdy]
 refine wpAnyH_done (by kernel_rfl) ?_ _
 clear hHeld
 go_wp2
 refine wp_region_held_drew (S := fun w' => Kept (OwnT s mv r lv) wA w') (by kernel_rfl) HK23.out.drew (fun hHeld => ?_)
 iterate 7
  refine tkn (v := ?_) 0 rfl ?_ ?_; rotate_left 1
  ·intro w hSw; obtain ⟨s1, s2, s3⟩ := HPS.out.gs w hSw; go_simp; try with_reducible rfl
  try simp only [Act.put, tdy]
 refine wpAnyH_ready (rs := [7]) (by kernel_rfl) (by simp) ?_
 refine AllReadyH.cons rfl (fun K hK => ?_) .nil
 go_simp
 refine (HNX.out _ ((Kept.refl _ _).drew)).mono ?_
 rintro e w5 ⟨rfl, ht5⟩
 have HT := hid_of (ht5.pre HKD2.out)
 clear ht5 HNX HK23
 refine hK.out _ _ HT.out.keptT (fun hHeld => ?_)
 clear hK K
 try simp only [Act.put, tdy]
 iterate 2
  refine tkn (v := ?_) 8 rfl ?_ ?_; rotate_left 1
  ·intro w hSw; obtain ⟨s1, s2, s3⟩ := HPS.out.gs w hSw; go_simp; try with_reducible rfl
  try simp only [Act.put, tdy]
 refine wpAnyH_done (by kernel_rfl) ?_ _
 clear hHeld
 have HFI := hid_of (HPS.out.fin _ _ HT.out)
 go_wp2
 go_ret
 exact ⟨rfl, HFI.out⟩
set_option maxHeartbeats 16000000 in
theorem wstep_eight {w : World} {lo k n g s : Nat} {mv : Value} {σ : Sg} {r : Nat} {lv : Value} {ρ : Rg} {iv : Value} {m : Nat} (h : Wd w lo k n g s mv σ r lv ρ iv m) (hn : n ≤ 900000) (t : Stp) (ht : t.Ok w) (hlow : Low lo t) (hbl : t.xs.length ≤ 8192) (hcl : t.ys.length ≤ 8192) (hkd : t.kd = 8) :
  Calls Tryz.prog 6 #[.pointer (some ⟨g, 0, none⟩), .agg t.cells.toArray] w fun e w' => e = .returned (.bool true) ∧ WdTo w w' lo k (n + 2) g s mv σ r lv ρ iv := by
 obtain ⟨bo, bc, co, cc, hbv, hcv, hc⟩ := Stp.st ht
 have hkA : Kept (fun _ => False) w (w.alloc (.cells t.cells.toArray 31)) := (Kept.refl _ w).alloc _
 generalize t.cells.toArray = cs at *
 have HBB : Hid ((w.alloc (.cells cs 31)).heap[w.heap.size]? = some (.cells cs 31 (0, 0))) := alloc_new _ _ rfl
 have HC := hid_of hc
 have HW := hid_of h
 have HKA := hid_of hkA
 have HTO := hid_of ht
 clear hkA hc ht h
 go_enter Tryz.func6, Tryz.ntmps6
 go_upto_region 1 with fail
 generalize w.alloc (.cells cs 31) = wA at *
 obtain ⟨p, hp⟩ : ∃ q, q = w.heap.size := ⟨_, rfl⟩
 rw [← hp] at HBB
 try rw [← hp]
 have HP0 : Hid (w.heap.size ≤ p) := by show _ ≤ p; omega
 clear hp
 have c0 := (cell_block _ _ 0 _ _ _ HBB.out).trans HC.out.kd
 have c1 := (cell_block _ _ 1 _ _ _ HBB.out).trans HC.out.bv
 have c2 := (cell_block _ _ 2 _ _ _ HBB.out).trans HC.out.cv
 have HPS := hid_of (StepS.mk' HW.out HKA.out ((cell_block _ _ 36 _ _ _ HBB.out).trans HC.out.n) HP0.out)
 have hxI : ¬ ((8192 : Int) < (t.xs.length : Int)) := by omega
 have hyI : ¬ ((8192 : Int) < (t.ys.length : Int)) := by omega
 rw [hkd] at c0
 have HT := hid_of HPS.out.two
 obtain ⟨ao, c, hlv⟩ := row_form HT.out.rs.row
 subst hlv
 obtain ⟨m, hm⟩ : ∃ m, m = ρ.l.length := ⟨_, rfl⟩
 obtain ⟨tot, htot⟩ : ∃ t, t = totB ρ.l := ⟨_, rfl⟩
 obtain ⟨cap, hcap⟩ : ∃ t, t = σ.cp := ⟨_, rfl⟩
 have HL : Hid (∀ W, Kept (fun _ => False) wA W → Calls Tryz.prog 19 #[.pointer (some ⟨s, 0, none⟩)] W fun e w' => e = .returned (.int .i64 (m : Int)) ∧ w' = W) := fun W hW => by
  have := len_full (HT.out.same hW).st
  rw [HT.out.alk.len, ← hm] at this
  exact this
 have HU1 : Hid (∀ W, Kept (fun _ => False) wA W → Calls Tryz.prog 20 #[.pointer (some ⟨s, 0, none⟩)] W fun e w' => e = .returned (.int .i64 tot) ∧ w' = W) := fun W hW => by
  have := used_any (HT.out.same hW).st
  rw [HT.out.sane.us, HT.out.alk.tot, ← htot] at this
  exact this
 have HU2 : Hid (∀ W, Kept (fun _ => False) wA W → Calls Tryz.prog 21 #[.pointer (some ⟨r, 0, none⟩)] W fun e w' => e = .returned (.int .i64 tot) ∧ w' = W) := fun W hW => by
  have := used_ref (HT.out.same hW).rs
  rw [← htot] at this
  exact this
 have HC1 : Hid (∀ W, Kept (fun _ => False) wA W → Calls Tryz.prog 22 #[.pointer (some ⟨s, 0, none⟩)] W fun e w' => e = .returned (.int .i64 cap) ∧ w' = W) := fun W hW => by
  have := cap_any (HT.out.same hW).st
  rw [← hcap] at this
  exact this
 have HW1 : Hid (∀ W, Kept (fun _ => False) wA W → Calls Tryz.prog 23 #[.pointer (some ⟨s, 0, none⟩)] W fun e w' => e = .returned (.int .i64 (k : Int)) ∧ w' = W) := fun W hW => by
  have := width_any (HT.out.same hW).st
  rw [HT.out.sane.wd] at this
  exact this
 have HS : Hid (∀ W, Kept (fun _ => False) wA W → W.cell? ⟨g, 0, none⟩ = some (.pointer (some ⟨s, 0, none⟩)) ∧ W.cell? ⟨g, 1, none⟩ = some (.pointer (some ⟨r, 0, none⟩)) ∧ W.cell? ⟨r, 3, none⟩ = some (.slice ao m c) ∧ W.cell? ⟨r, 1, none⟩ = some (.int .i64 cap) ∧ W.cell? ⟨r, 0, none⟩ = some (.int .i64 (k : Int))) := fun W hW => by
  have h3 := (HT.out.same hW).rs.cell 3
  have h1 := (HT.out.same hW).rs.cell 1
  have h0 := (HT.out.same hW).rs.cell 0
  obtain ⟨s1, s2, _⟩ := HPS.out.gs W (hW.mono (fun _ _ f => f.elim))
  refine ⟨s1, s2, ?_, ?_, ?_⟩
  ·rw [h3, hm]; rfl
  ·rw [h1, hcap, ← HT.out.num.2.1]; rfl
  ·rw [h0, ← HT.out.num.1]; rfl
 clear hm htot hcap
 have HKE : Hid (Kept (fun _ => False) wA wA.drew) := (Kept.refl _ _).drew
 have HFI := hid_of (HPS.out.fin _ _ (HT.out.stay HKE.out))
 go_upto_region 17 with fail
 clear c0 c1 c2
 refine wp_region_held_drew (S := fun w' => Kept (fun _ => False) wA w') (by kernel_rfl) ((Kept.refl _ _).drew) (fun hHeld => ?_)
 iterate 4
  refine tkn (v := ?_) 0 rfl ?_ ?_; rotate_left 1
  ·intro w hSw; obtain ⟨s1, s2, s3, s4, s5⟩ := HS.out w hSw; go_simp; try with_reducible rfl
  try simp only [Act.put, tdy]
 iterate 8
  refine tkn (v := ?_) 5 rfl ?_ ?_; rotate_left 1
  ·intro w hSw; obtain ⟨s1, s2, s3, s4, s5⟩ := HS.out w hSw; go_simp; try with_reducible rfl
  try simp only [Act.put, tdy]
 refine wpAnyH_ready (rs := [4]) (by kernel_rfl) (by simp) ?_
 refine AllReadyH.cons rfl (fun K hK => ?_) .nil
 go_simp
 refine (HL.out _ hHeld).mono ?_
 rintro e w5 ⟨rfl, rfl⟩
 refine hK.out _ _ hHeld (fun hHeld => ?_)
 clear hK K
 try simp only [Act.put, tdy]
 iterate 6
  refine tkn (v := ?_) 13 rfl ?_ ?_; rotate_left 1
  ·intro w hSw; obtain ⟨s1, s2, s3, s4, s5⟩ := HS.out w hSw; go_simp; try with_reducible rfl
  try simp only [Act.put, tdy]
 iterate 4
  refine tkn (v := ?_) 20 rfl ?_ ?_; rotate_left 1
  ·intro w hSw; obtain ⟨s1, s2, s3, s4, s5⟩ := HS.out w hSw; go_simp; try with_reducible rfl
  try simp only [Act.put, tdy]
 refine wpAnyH_ready (rs := [19]) (by kernel_rfl) (by simp) ?_
 refine AllReadyH.cons rfl (fun K hK => ?_) .nil
 go_simp
 refine (HU1.out _ hHeld).mono ?_
 rintro e w5 ⟨rfl, rfl⟩
 refine hK.out _ _ hHeld (fun hHeld => ?_)
 clear hK K
 try simp only [Act.put, tdy]
 refine wpAnyH_ready (rs := [24]) (by kernel_rfl) (by simp) ?_
 refine AllReadyH.cons rfl (fun K hK => ?_) .nil
 go_simp
 refine (HU2.out _ hHeld).mono ?_
 rintro e w5 ⟨rfl, rfl⟩
 refine hK.out _ _ hHeld (fun hHeld => ?_)
 clear hK K
 try simp only [Act.put, tdy]
 iterate 7
  refine tkn (v := ?_) 25 rfl ?_ ?_; rotate_left 1
  ·intro w hSw; obtain ⟨s1, s2, s3, s4, s5⟩ := HS.out w hSw; go_simp; try with_reducible rfl
  try simp only [Act.put, tdy]
 iterate 7
  refine tkn (v := ?_) 33 rfl ?_ ?_; rotate_left 1
  ·intro w hSw; obtain ⟨s1, s2, s3, s4, s5⟩ := HS.out w hSw; go_simp; try with_reducible rfl
  try simp only [Act.put, tdy]
 refine wpAnyH_ready (rs := [32]) (by kernel_rfl) (by simp) ?_
 refine AllReadyH.cons rfl (fun K hK => ?_) .nil
 go_simp
 refine (HC1.out _ hHeld).mono ?_
 rintro e w5 ⟨rfl, rfl⟩
 refine hK.out _ _ hHeld (fun hHeld => ?_)
 clear hK K
 try simp only [Act.put, tdy]
 iterate 7
  refine tkn (v := ?_) 40 rfl ?_ ?_; rotate_left 1
  ·intro w hSw; obtain ⟨s1, s2, s3, s4, s5⟩ := HS.out w hSw; go_simp; try with_reducible rfl
  try simp only [Act.put, tdy]
 iterate 7
  refine tkn (v := ?_) 48 rfl ?_ ?_; rotate_left 1
  ·intro w hSw; obtain ⟨s1, s2, s3, s4, s5⟩ := HS.out w hSw; go_simp; try with_reducible rfl
  try simp only [Act.put, tdy]
 refine wpAnyH_ready (rs := [47]) (by kernel_rfl) (by simp) ?_
 refine AllReadyH.cons rfl (fun K hK => ?_) .nil
 go_simp
 refine (HW1.out _ hHeld).mono ?_
 rintro e w5 ⟨rfl, rfl⟩
 refine hK.out _ _ hHeld (fun hHeld => ?_)
 clear hK K
 try simp only [Act.put, tdy]
 iterate 3
  refine tkn (v := ?_) 55 rfl ?_ ?_; rotate_left 1
  ·intro w hSw; obtain ⟨s1, s2, s3, s4, s5⟩ := HS.out w hSw; go_simp; try with_reducible rfl
  try simp only [Act.put, tdy]
 refine wpAnyH_done (by kernel_rfl) ?_ _
 clear hHeld
 go_wp2
 go_ret
 exact ⟨rfl, HFI.out⟩
set_option maxHeartbeats 16000000 in
theorem wstep_nine {w : World} {lo k n g s : Nat} {mv : Value} {σ : Sg} {r : Nat} {lv : Value} {ρ : Rg} {iv : Value} {m : Nat} (h : Wd w lo k n g s mv σ r lv ρ iv m) (hn : n ≤ 900000) (t : Stp) (ht : t.Ok w) (hlow : Low lo t) (hbl : t.xs.length ≤ 8192) (hcl : t.ys.length ≤ 8192) (hkd : t.kd = 9) :
  Calls Tryz.prog 6 #[.pointer (some ⟨g, 0, none⟩), .agg t.cells.toArray] w fun e w' => e = .returned (.bool true) ∧ WdTo w w' lo k (n + 2) g s mv σ r lv ρ iv := by
 obtain ⟨bo, bc, co, cc, hbv, hcv, hc⟩ := Stp.st ht
 have hkA : Kept (fun _ => False) w (w.alloc (.cells t.cells.toArray 31)) := (Kept.refl _ w).alloc _
 generalize t.cells.toArray = cs at *
 have HBB : Hid ((w.alloc (.cells cs 31)).heap[w.heap.size]? = some (.cells cs 31 (0, 0))) := alloc_new _ _ rfl
 have HC := hid_of hc
 have HW := hid_of h
 have HKA := hid_of hkA
 have HTO := hid_of ht
 clear hkA hc ht h
 go_enter Tryz.func6, Tryz.ntmps6
 go_upto_region 1 with fail
 generalize w.alloc (.cells cs 31) = wA at *
 obtain ⟨p, hp⟩ : ∃ q, q = w.heap.size := ⟨_, rfl⟩
 rw [← hp] at HBB
 try rw [← hp]
 have HP0 : Hid (w.heap.size ≤ p) := by show _ ≤ p; omega
 clear hp
 have c0 := (cell_block _ _ 0 _ _ _ HBB.out).trans HC.out.kd
 have c1 := (cell_block _ _ 1 _ _ _ HBB.out).trans HC.out.bv
 have c2 := (cell_block _ _ 2 _ _ _ HBB.out).trans HC.out.cv
 have HPS := hid_of (StepS.mk' HW.out HKA.out ((cell_block _ _ 36 _ _ _ HBB.out).trans HC.out.n) HP0.out)
 have hxI : ¬ ((8192 : Int) < (t.xs.length : Int)) := by omega
 have hyI : ¬ ((8192 : Int) < (t.ys.length : Int)) := by omega
 rw [hkd] at c0
 have HEQ := eq38 σ.gt σ.pt
 have HCO : Hid (∀ W, Kept (fun _ => False) wA W → Calls Tryz.prog 8 #[.pointer (some ⟨s, 0, none⟩)] W fun e w' => e = .returned (.agg #[.int .i64 σ.gt, .int .i64 σ.pt]) ∧ Kept (fun _ => False) W w') := fun W hW => counts_any (HPS.out.two.same hW).st
 have HMI : Hid (∀ W, Kept (fun _ => False) wA W → W.rangeAt r 4 [.int .i64 σ.gt, .int .i64 σ.pt]) := fun W hW j u hj => by
  have h2 := HPS.out.two.same hW
  rw [cell_block _ _ _ _ _ _ h2.rs.blk]
  have hg := h2.num.2.2.2.1
  have hp := h2.num.2.2.2.2
  match j with
  | 0 => rw [← hj, ← hg]; rfl
  | 1 => rw [← hj, ← hp]; rfl
  | j + 2 => simp at hj
 obtain ⟨ls, hls⟩ : ∃ l, l = [Value.int .i64 σ.gt, Value.int .i64 σ.pt] := ⟨_, rfl⟩
 obtain ⟨la, hla⟩ : ∃ l, l = #[Value.int .i64 σ.gt, Value.int .i64 σ.pt] := ⟨_, rfl⟩
 have HLA : Hid (ls.toArray = la) := by show _ = _; rw [hls, hla]
 have hsl : (Tryz.prog.info? 38).map (·.size) = some ls.length := by rw [hls]; exact size38s
 rw [← hla] at HEQ HCO
 rw [← hls] at HMI
 clear hls hla
 go_upto_region 19 with fail
 clear c0 c1 c2
 refine wp_region_held_drew (S := fun w' => Kept (fun _ => False) wA w') (by kernel_rfl) ((Kept.refl _ _).drew) (fun hHeld => ?_)
 iterate 4
  refine tkn (v := ?_) 0 rfl ?_ ?_; rotate_left 1
  ·intro w hSw; obtain ⟨s1, s2, s3⟩ := HPS.out.gs w (hSw.mono (fun _ _ f => f.elim)); go_simp; try with_reducible rfl
  try simp only [Act.put, tdy]
 iterate 6
  refine tkn (v := ?_) 5 rfl ?_ ?_; rotate_left 1
  ·intro w hSw; obtain ⟨s1, s2, s3⟩ := HPS.out.gs w (hSw.mono (fun _ _ f => f.elim)); go_simp; try with_reducible rfl
  try simp only [Act.put, tdy]
 refine tkg 11 (.agg la) rfl (by rw [← HLA.out]; exact yieldsIf_load_mid (by rfl) 38 _ rfl r 4 rfl ls _ (fun w hSw => HMI.out w hSw) Tryz.underlying38 rfl hsl) ?_
 try simp only [Act.put, tdy]
 refine wpAnyH_ready (rs := [4]) (by kernel_rfl) (by simp) ?_
 refine AllReadyH.cons rfl (fun K hK => ?_) .nil
 go_simp
 refine (HCO.out _ hHeld).mono ?_
 rintro e w3 ⟨rfl, hk3⟩
 have HK3 : Hid (Kept (fun _ => False) wA w3) := hHeld.trans hk3
 clear hk3 HCO
 refine hK.out _ _ HK3.out (fun hHeld => ?_)
 clear hK K
 try simp only [Act.put, tdy]
 refine tkp (v := ?_) 12 rfl ?_ ?_; rotate_left 1
 ·intro w hSw; have hq := HEQ w; go_simp; try with_reducible rfl
 try simp only [Act.put, tdy]
 refine tkp (v := ?_) 13 rfl ?_ ?_; rotate_left 1
 ·intro w hSw; obtain ⟨s1, s2, s3⟩ := HPS.out.gs w (hSw.mono (fun _ _ f => f.elim)); go_simp; try with_reducible rfl
 try simp only [Act.put, tdy]
 refine wpAnyH_done (by kernel_rfl) ?_ _
 clear hHeld
 have HFI := hid_of (HPS.out.fin _ _ (HPS.out.two.stay HK3.out))
 go_wp2
 go_ret
 exact ⟨rfl, HFI.out⟩
set_option maxHeartbeats 16000000 in
theorem wstep_ten {w : World} {lo k n g s : Nat} {mv : Value} {σ : Sg} {r : Nat} {lv : Value} {ρ : Rg} {iv : Value} {m : Nat} (h : Wd w lo k n g s mv σ r lv ρ iv m) (hn : n ≤ 900000) (t : Stp) (ht : t.Ok w) (hlow : Low lo t) (hbl : t.xs.length ≤ 8192) (hcl : t.ys.length ≤ 8192) (hkd : t.kd = 10) :
  Calls Tryz.prog 6 #[.pointer (some ⟨g, 0, none⟩), .agg t.cells.toArray] w fun e w' => e = .returned (.bool true) ∧ WdTo w w' lo k (n + 2) g s mv σ r lv ρ iv := by
 obtain ⟨bo, bc, co, cc, hbv, hcv, hc⟩ := Stp.st ht
 have hkA : Kept (fun _ => False) w (w.alloc (.cells t.cells.toArray 31)) := (Kept.refl _ w).alloc _
 generalize t.cells.toArray = cs at *
 have HBB : Hid ((w.alloc (.cells cs 31)).heap[w.heap.size]? = some (.cells cs 31 (0, 0))) := alloc_new _ _ rfl
 have HC := hid_of hc
 have HW := hid_of h
 have HKA := hid_of hkA
 have HTO := hid_of ht
 clear hkA hc ht h
 go_enter Tryz.func6, Tryz.ntmps6
 go_upto_region 1 with fail
 generalize w.alloc (.cells cs 31) = wA at *
 obtain ⟨p, hp⟩ : ∃ q, q = w.heap.size := ⟨_, rfl⟩
 rw [← hp] at HBB
 try rw [← hp]
 have HP0 : Hid (w.heap.size ≤ p) := by show _ ≤ p; omega
 clear hp
 have c0 := (cell_block _ _ 0 _ _ _ HBB.out).trans HC.out.kd
 have c1 := (cell_block _ _ 1 _ _ _ HBB.out).trans HC.out.bv
 have c2 := (cell_block _ _ 2 _ _ _ HBB.out).trans HC.out.cv
 have HPS := hid_of (StepS.mk' HW.out HKA.out ((cell_block _ _ 36 _ _ _ HBB.out).trans HC.out.n) HP0.out)
 have hxI : ¬ ((8192 : Int) < (t.xs.length : Int)) := by omega
 have hyI : ¬ ((8192 : Int) < (t.ys.length : Int)) := by omega
 rw [hkd] at c0
 have HAL : Hid (∀ W, Kept (fun _ => False) wA W → Calls Tryz.prog 7 #[.pointer (some ⟨s, 0, none⟩), .pointer (some ⟨r, 0, none⟩)] W fun e w' => e = .returned (.bool true) ∧ Kept (fun _ => False) W w') := fun W hW => alike_any (HPS.out.two.same hW) hn
 go_upto_region 21 with fail
 clear c0 c1 c2
 refine wp_region_held_drew (S := fun w' => Kept (fun _ => False) wA w') (by kernel_rfl) ((Kept.refl _ _).drew) (fun hHeld => ?_)
 iterate 8
  refine tkn (v := ?_) 0 rfl ?_ ?_; rotate_left 1
  ·intro w hSw; obtain ⟨s1, s2, s3⟩ := HPS.out.gs w (hSw.mono (fun _ _ f => f.elim)); go_simp; try with_reducible rfl
  try simp only [Act.put, tdy]
 refine wpAnyH_ready (rs := [8]) (by kernel_rfl) (by simp) ?_
 refine AllReadyH.cons rfl (fun K hK => ?_) .nil
 go_simp
 refine (HAL.out _ hHeld).mono ?_
 rintro e w3 ⟨rfl, hk3⟩
 have HK3 : Hid (Kept (fun _ => False) wA w3) := hHeld.trans hk3
 clear hk3 HAL
 refine hK.out _ _ HK3.out (fun hHeld => ?_)
 clear hK K
 try simp only [Act.put, tdy]
 refine tkp (v := ?_) 9 rfl ?_ ?_; rotate_left 1
 ·intro w hSw; obtain ⟨s1, s2, s3⟩ := HPS.out.gs w (hSw.mono (fun _ _ f => f.elim)); go_simp; try with_reducible rfl
 try simp only [Act.put, tdy]
 refine wpAnyH_done (by kernel_rfl) ?_ _
 clear hHeld
 have HFI := hid_of (HPS.out.fin _ _ (HPS.out.two.stay HK3.out))
 go_wp2
 go_ret
 exact ⟨rfl, HFI.out⟩
set_option maxHeartbeats 16000000 in
theorem wstep_eleven {w : World} {lo k n g s : Nat} {mv : Value} {σ : Sg} {r : Nat} {lv : Value} {ρ : Rg} {iv : Value} {m : Nat} (h : Wd w lo k n g s mv σ r lv ρ iv m) (hn : n ≤ 900000) (t : Stp) (ht : t.Ok w) (hlow : Low lo t) (hbl : t.xs.length ≤ 8192) (hcl : t.ys.length ≤ 8192) (hkd : t.kd = 11) :
  Calls Tryz.prog 6 #[.pointer (some ⟨g, 0, none⟩), .agg t.cells.toArray] w fun e w' => e = .returned (.bool true) ∧ WdTo w w' lo k (n + 2) g s mv σ r lv ρ iv := by
 obtain ⟨bo, bc, co, cc, hbv, hcv, hc⟩ := Stp.st ht
 have hkA : Kept (fun _ => False) w (w.alloc (.cells t.cells.toArray 31)) := (Kept.refl _ w).alloc _
 generalize t.cells.toArray = cs at *
 have HBB : Hid ((w.alloc (.cells cs 31)).heap[w.heap.size]? = some (.cells cs 31 (0, 0))) := alloc_new _ _ rfl
 have HC := hid_of hc
 have HW := hid_of h
 have HKA := hid_of hkA
 have HTO := hid_of ht
 clear hkA hc ht h
 go_enter Tryz.func6, Tryz.ntmps6
 go_upto_region 1 with fail
 generalize w.alloc (.cells cs 31) = wA at *
 obtain ⟨p, hp⟩ : ∃ q, q = w.heap.size := ⟨_, rfl⟩
 rw [← hp] at HBB
 try rw [← hp]
 have HP0 : Hid (w.heap.size ≤ p) := by show _ ≤ p; omega
 clear hp
 have c0 := (cell_block _ _ 0 _ _ _ HBB.out).trans HC.out.kd
 have c1 := (cell_block _ _ 1 _ _ _ HBB.out).trans HC.out.bv
 have c2 := (cell_block _ _ 2 _ _ _ HBB.out).trans HC.out.cv
 have HPS := hid_of (StepS.mk' HW.out HKA.out ((cell_block _ _ 36 _ _ _ HBB.out).trans HC.out.n) HP0.out)
 have hxI : ¬ ((8192 : Int) < (t.xs.length : Int)) := by omega
 have hyI : ¬ ((8192 : Int) < (t.ys.length : Int)) := by omega
 rw [hkd] at c0
 have HTW := hid_of (twin_any HPS.out.two.st)
 obtain ⟨g0, g1, _⟩ := HPS.out.gs wA (Kept.refl _ _)
 have hWA := HW.out.same HKA.out
 have HGB := hid_of hWA.blk
 clear hWA g1
 go_wp2_with fail
 refine HTW.out.mono ?_
 rintro e w5 ⟨mv', rfl, hst, hk5, hmv⟩
 have hG5 := (hk5.block _ (heap_lt HGB.out) (fun f => f)).trans HGB.out
 have g5 := (cell_block w5 g 0 _ _ _ hG5)
 have f5 := frozen_block w5 g 0 _ _ hG5
 have g6 : (w5.setCell ⟨g, 0, none⟩ (.pointer (some ⟨wA.heap.size, 0, none⟩))).cell? ⟨g, 0, none⟩ = some (.pointer (some ⟨wA.heap.size, 0, none⟩)) := by
  rw [cell_block _ g 0 _ _ _ (set_block _ _ _ _ _ _ hG5 _)]
  rfl
 have HFI := hid_of (HW.out.twin (HKA.out.trans hk5) hst HKA.out.size (fun q hq => Nat.le_trans HKA.out.size (hmv q hq)) (n' := n + 2) (by omega))
 have g5' : w5.cell? ⟨g, 0, none⟩ = some (.pointer (some ⟨s, 0, none⟩)) := g5.trans rfl
 clear hst hk5 hmv hG5 HTW g5 g0 c0 c1 c2
 go_wp2
 go_ret
 exact ⟨rfl, HFI.out⟩
set_option maxHeartbeats 16000000 in
theorem wstep_other {w : World} {lo k n g s : Nat} {mv : Value} {σ : Sg} {r : Nat} {lv : Value} {ρ : Rg} {iv : Value} {m : Nat} (h : Wd w lo k n g s mv σ r lv ρ iv m) (hn : n ≤ 900000) (t : Stp) (ht : t.Ok w) (hlow : Low lo t) (hbl : t.xs.length ≤ 8192) (hcl : t.ys.length ≤ 8192) (hkd : ∀ q : Int, 1 ≤ q → q ≤ 12 → t.kd ≠ q) :
  Calls Tryz.prog 6 #[.pointer (some ⟨g, 0, none⟩), .agg t.cells.toArray] w fun e w' => e = .returned (.bool true) ∧ WdTo w w' lo k (n + 2) g s mv σ r lv ρ iv := by
 obtain ⟨bo, bc, co, cc, hbv, hcv, hc⟩ := Stp.st ht
 have hkA : Kept (fun _ => False) w (w.alloc (.cells t.cells.toArray 31)) := (Kept.refl _ w).alloc _
 generalize t.cells.toArray = cs at *
 have HBB : Hid ((w.alloc (.cells cs 31)).heap[w.heap.size]? = some (.cells cs 31 (0, 0))) := alloc_new _ _ rfl
 have HC := hid_of hc
 have HW := hid_of h
 have HKA := hid_of hkA
 have HTO := hid_of ht
 clear hkA hc ht h
 go_enter Tryz.func6, Tryz.ntmps6
 go_upto_region 1 with fail
 generalize w.alloc (.cells cs 31) = wA at *
 obtain ⟨p, hp⟩ : ∃ q, q = w.heap.size := ⟨_, rfl⟩
 rw [← hp] at HBB
 try rw [← hp]
 have HP0 : Hid (w.heap.size ≤ p) := by show _ ≤ p; omega
 clear hp
 have c0 := (cell_block _ _ 0 _ _ _ HBB.out).trans HC.out.kd
 have c1 := (cell_block _ _ 1 _ _ _ HBB.out).trans HC.out.bv
 have c2 := (cell_block _ _ 2 _ _ _ HBB.out).trans HC.out.cv
 have HPS := hid_of (StepS.mk' HW.out HKA.out ((cell_block _ _ 36 _ _ _ HBB.out).trans HC.out.n) HP0.out)
 have hxI : ¬ ((8192 : Int) < (t.xs.length : Int)) := by omega
 have hyI : ¬ ((8192 : Int) < (t.ys.length : Int)) := by omega
 have n1 : ¬ t.kd = 1 := hkd 1 (by decide) (by decide)
 have n2 : ¬ t.kd = 2 := hkd 2 (by decide) (by decide)
 have n3 : ¬ t.kd = 3 := hkd 3 (by decide) (by decide)
 have n4 : ¬ t.kd = 4 := hkd 4 (by decide) (by decide)
 have n5 : ¬ t.kd = 5 := hkd 5 (by decide) (by decide)
 have n6 : ¬ t.kd = 6 := hkd 6 (by decide) (by decide)
 have n7 : ¬ t.kd = 7 := hkd 7 (by decide) (by decide)
 have n8 : ¬ t.kd = 8 := hkd 8 (by decide) (by decide)
 have n9 : ¬ t.kd = 9 := hkd 9 (by decide) (by decide)
 have n10 : ¬ t.kd = 10 := hkd 10 (by decide) (by decide)
 have n11 : ¬ t.kd = 11 := hkd 11 (by decide) (by decide)
 have n12 : ¬ t.kd = 12 := hkd 12 (by decide) (by decide)
 have HFI := hid_of (HW.out.stay HKA.out (n' := n + 2) (by omega))
 generalize t.kd = kd at *
 go_wp2
 go_ret
 exact ⟨rfl, HFI.out⟩
set_option maxHeartbeats 16000000 in
theorem wstep_long {w : World} {lo k n g s : Nat} {mv : Value} {σ : Sg} {r : Nat} {lv : Value} {ρ : Rg} {iv : Value} {m : Nat} (h : Wd w lo k n g s mv σ r lv ρ iv m) (hn : n ≤ 900000) (t : Stp) (ht : t.Ok w) (hlow : Low lo t) (hbl : 8192 < t.xs.length) :
  Calls Tryz.prog 6 #[.pointer (some ⟨g, 0, none⟩), .agg t.cells.toArray] w fun e w' => e = .returned (.bool true) ∧ WdTo w w' lo k (n + 2) g s mv σ r lv ρ iv := by
 obtain ⟨bo, bc, co, cc, hbv, hcv, hc⟩ := Stp.st ht
 have hkA : Kept (fun _ => False) w (w.alloc (.cells t.cells.toArray 31)) := (Kept.refl _ w).alloc _
 generalize t.cells.toArray = cs at *
 have HBB : Hid ((w.alloc (.cells cs 31)).heap[w.heap.size]? = some (.cells cs 31 (0, 0))) := alloc_new _ _ rfl
 have HC := hid_of hc
 have HW := hid_of h
 have HKA := hid_of hkA
 have HTO := hid_of ht
 clear hkA hc ht h
 go_enter Tryz.func6, Tryz.ntmps6
 go_upto_region 1 with fail
 generalize w.alloc (.cells cs 31) = wA at *
 obtain ⟨p, hp⟩ : ∃ q, q = w.heap.size := ⟨_, rfl⟩
 rw [← hp] at HBB
 try rw [← hp]
 have HP0 : Hid (w.heap.size ≤ p) := by show _ ≤ p; omega
 clear hp
 have c0 := (cell_block _ _ 0 _ _ _ HBB.out).trans HC.out.kd
 have c1 := (cell_block _ _ 1 _ _ _ HBB.out).trans HC.out.bv
 have c2 := (cell_block _ _ 2 _ _ _ HBB.out).trans HC.out.cv
 have HPS := hid_of (StepS.mk' HW.out HKA.out ((cell_block _ _ 36 _ _ _ HBB.out).trans HC.out.n) HP0.out)
 have hxI : (8192 : Int) < (t.xs.length : Int) := by omega
 have HFI := hid_of (HW.out.stay HKA.out (n' := n + 2) (by omega))
 go_wp2
 go_ret
 exact ⟨rfl, HFI.out⟩
set_option maxHeartbeats 16000000 in
theorem wstep_long2 {w : World} {lo k n g s : Nat} {mv : Value} {σ : Sg} {r : Nat} {lv : Value} {ρ : Rg} {iv : Value} {m : Nat} (h : Wd w lo k n g s mv σ r lv ρ iv m) (hn : n ≤ 900000) (t : Stp) (ht : t.Ok w) (hlow : Low lo t) (hbl : t.xs.length ≤ 8192) (hcl : 8192 < t.ys.length) :
  Calls Tryz.prog 6 #[.pointer (some ⟨g, 0, none⟩), .agg t.cells.toArray] w fun e w' => e = .returned (.bool true) ∧ WdTo w w' lo k (n + 2) g s mv σ r lv ρ iv := by
 obtain ⟨bo, bc, co, cc, hbv, hcv, hc⟩ := Stp.st ht
 have hkA : Kept (fun _ => False) w (w.alloc (.cells t.cells.toArray 31)) := (Kept.refl _ w).alloc _
 generalize t.cells.toArray = cs at *
 have HBB : Hid ((w.alloc (.cells cs 31)).heap[w.heap.size]? = some (.cells cs 31 (0, 0))) := alloc_new _ _ rfl
 have HC := hid_of hc
 have HW := hid_of h
 have HKA := hid_of hkA
 have HTO := hid_of ht
 clear hkA hc ht h
 go_enter Tryz.func6, Tryz.ntmps6
 go_upto_region 1 with fail
 generalize w.alloc (.cells cs 31) = wA at *
 obtain ⟨p, hp⟩ : ∃ q, q = w.heap.size := ⟨_, rfl⟩
 rw [← hp] at HBB
 try rw [← hp]
 have HP0 : Hid (w.heap.size ≤ p) := by show _ ≤ p; omega
 clear hp
 have c0 := (cell_block _ _ 0 _ _ _ HBB.out).trans HC.out.kd
 have c1 := (cell_block _ _ 1 _ _ _ HBB.out).trans HC.out.bv
 have c2 := (cell_block _ _ 2 _ _ _ HBB.out).trans HC.out.cv
 have HPS := hid_of (StepS.mk' HW.out HKA.out ((cell_block _ _ 36 _ _ _ HBB.out).trans HC.out.n) HP0.out)
 have hxI : ¬ ((8192 : Int) < (t.xs.length : Int)) := by omega
 have hyI : (8192 : Int) < (t.ys.length : Int) := by omega
 have HFI := hid_of (HW.out.stay HKA.out (n' := n + 2) (by omega))
 go_wp2
 go_ret
 exact ⟨rfl, HFI.out⟩
theorem wstep_any {w : World} {lo k n g s : Nat} {mv : Value} {σ : Sg} {r : Nat} {lv : Value} {ρ : Rg} {iv : Value} {m : Nat} (h : Wd w lo k n g s mv σ r lv ρ iv m) (hn : n ≤ 900000) (t : Stp) (ht : t.Ok w) (hlow : Low lo t) :
  Calls Tryz.prog 6 #[.pointer (some ⟨g, 0, none⟩), .agg t.cells.toArray] w fun e w' => e = .returned (.bool true) ∧ WdTo w w' lo k (n + 2) g s mv σ r lv ρ iv := by
 by_cases hbl : t.xs.length ≤ 8192
 ·by_cases hcl : t.ys.length ≤ 8192
  ·by_cases h1 : t.kd = 1
   ·exact wstep_one h hn t ht hlow hbl hcl h1
   by_cases h2 : t.kd = 2
   ·exact wstep_two h hn t ht hlow hbl hcl h2
   by_cases h3 : t.kd = 3
   ·exact wstep_three h hn t ht hlow hbl hcl h3
   by_cases h4 : t.kd = 4
   ·exact wstep_four h hn t ht hlow hbl hcl h4
   by_cases h5 : t.kd = 5
   ·exact wstep_five h hn t ht hlow hbl hcl h5
   by_cases h6 : t.kd = 6
   ·exact wstep_six h hn t ht hlow hbl hcl h6
   by_cases h7 : t.kd = 7
   ·exact wstep_seven h hn t ht hlow hbl hcl h7
   by_cases h8 : t.kd = 8
   ·exact wstep_eight h hn t ht hlow hbl hcl h8
   by_cases h9 : t.kd = 9
   ·exact wstep_nine h hn t ht hlow hbl hcl h9
   by_cases h10 : t.kd = 10
   ·exact wstep_ten h hn t ht hlow hbl hcl h10
   by_cases h11 : t.kd = 11
   ·exact wstep_eleven h hn t ht hlow hbl hcl h11
   by_cases h12 : t.kd = 12
   ·exact wstep_twelve h hn t ht hlow hbl hcl h12
   exact wstep_other h hn t ht hlow hbl hcl (fun q hq1 hq2 e => by omega)
  ·exact wstep_long2 h hn t ht hlow hbl (by omega)
 ·exact wstep_long h hn t ht hlow (by omega)
end Go.Proofs.YtjdbmjkidljhpaaGreatDoor

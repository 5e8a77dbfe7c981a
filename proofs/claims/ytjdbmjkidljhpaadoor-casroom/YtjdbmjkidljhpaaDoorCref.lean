/-
  The document's digest of a width, by contract.
-/
import Derived.Test.YtjdbmjkidljhpaaDoorCdig
import Derived.Test.YtjdbmjkidljhpaaDoorRof
namespace Go.Proofs.YtjdbmjkidljhpaaDoor
open Go.RowKit
set_option linter.unusedVariables false
set_option linter.unusedSimpArgs false
set_option maxRecDepth 100000

set_option maxHeartbeats 2000000 in
theorem rfront_any (k : Nat) (h1 : 1 ≤ k) (h2 : k ≤ 32) (bv : Value) (xs : List Int) (w : World) (hx : BIn w bv xs) (hr : ∀ x ∈ xs, 0 ≤ x ∧ x < 256) (hn : xs.length ≤ 4294967296) :
    Calls Tryd.prog 28 #[bv, .int .i64 (k : Int)] w fun e w' => e = .returned (dv (frontOf k xs)) ∧ Kept (fun _ => False) w w' := by
  have HO : Hid (∀ W, Kept (fun _ => False) w W → Calls Tryd.prog 41 #[bv] W fun e w' => e = .returned (.agg ((sha xs).map (Value.int .u8)).toArray) ∧ Kept (fun _ => False) W w') := fun W hW => rof_any bv xs W (hx.kept hW (fun _ _ f => f)) hr hn
  have HC := hid_of (fun W => rcut_ok (sha xs) k (sha_len xs) h1 h2 W)
  have hfl := frontOf_len k xs h2
  have hone := oneCells .u8 (frontOf k xs)
  have hs57 : (Tryd.prog.info? 57).map (·.size) = some ((frontOf k xs).map (Value.int .u8)).toArray.size := by simp [size31, hfl]
  have HOS : Hid (32 = ((frontOf k xs).map (Value.int .u8)).toArray.size) := by show 32 = _; simp [hfl]
  have HF : Hid (cutL (sha xs) k = frontOf k xs) := rfl
  rw [HF.out] at HC
  unfold dv
  clear hx hr HF hfl
  generalize ((sha xs).map (Value.int .u8)).toArray = os at *
  generalize ((frontOf k xs).map (Value.int .u8)).toArray = cs at *
  go_enter Tryd.func28, Tryd.ntmps28
  go_wp2_with fail
  have HA : Hid ((w.alloc (.cells #[.int .u8 0, .int .u8 0, .int .u8 0, .int .u8 0, .int .u8 0, .int .u8 0, .int .u8 0, .int .u8 0, .int .u8 0, .int .u8 0, .int .u8 0, .int .u8 0, .int .u8 0, .int .u8 0, .int .u8 0, .int .u8 0, .int .u8 0, .int .u8 0, .int .u8 0, .int .u8 0, .int .u8 0, .int .u8 0, .int .u8 0, .int .u8 0, .int .u8 0, .int .u8 0, .int .u8 0, .int .u8 0, .int .u8 0, .int .u8 0, .int .u8 0, .int .u8 0] 57)).heap[w.heap.size]? = some (.cells #[.int .u8 0, .int .u8 0, .int .u8 0, .int .u8 0, .int .u8 0, .int .u8 0, .int .u8 0, .int .u8 0, .int .u8 0, .int .u8 0, .int .u8 0, .int .u8 0, .int .u8 0, .int .u8 0, .int .u8 0, .int .u8 0, .int .u8 0, .int .u8 0, .int .u8 0, .int .u8 0, .int .u8 0, .int .u8 0, .int .u8 0, .int .u8 0, .int .u8 0, .int .u8 0, .int .u8 0, .int .u8 0, .int .u8 0, .int .u8 0, .int .u8 0, .int .u8 0] 57 (0, 0))) := alloc_new _ _ rfl
  have HKA : Hid (Kept (fun _ => False) w (w.alloc (.cells #[.int .u8 0, .int .u8 0, .int .u8 0, .int .u8 0, .int .u8 0, .int .u8 0, .int .u8 0, .int .u8 0, .int .u8 0, .int .u8 0, .int .u8 0, .int .u8 0, .int .u8 0, .int .u8 0, .int .u8 0, .int .u8 0, .int .u8 0, .int .u8 0, .int .u8 0, .int .u8 0, .int .u8 0, .int .u8 0, .int .u8 0, .int .u8 0, .int .u8 0, .int .u8 0, .int .u8 0, .int .u8 0, .int .u8 0, .int .u8 0, .int .u8 0, .int .u8 0] 57))) := (Kept.refl _ w).alloc _
  generalize w.alloc (.cells #[.int .u8 0, .int .u8 0, .int .u8 0, .int .u8 0, .int .u8 0, .int .u8 0, .int .u8 0, .int .u8 0, .int .u8 0, .int .u8 0, .int .u8 0, .int .u8 0, .int .u8 0, .int .u8 0, .int .u8 0, .int .u8 0, .int .u8 0, .int .u8 0, .int .u8 0, .int .u8 0, .int .u8 0, .int .u8 0, .int .u8 0, .int .u8 0, .int .u8 0, .int .u8 0, .int .u8 0, .int .u8 0, .int .u8 0, .int .u8 0, .int .u8 0, .int .u8 0] 57) = wA at *
  refine (HO.out wA HKA.out).mono ?_
  rintro e w1 ⟨rfl, hk1⟩
  have HK1 := hid_of (HKA.out.trans hk1)
  have HA1 := hid_of ((hk1.block _ (heap_lt HA.out) (fun f => f)).trans HA.out)
  clear hk1 HO HKA HA
  go_wp2_with fail
  refine (HC.out w1).mono ?_
  rintro e w2 ⟨rfl, hk2⟩
  have HK2 := hid_of (HK1.out.trans hk2)
  have HA2 := hid_of ((hk2.block _ (heap_lt HA1.out) (fun f => f)).trans HA1.out)
  have HD : Hid ((w2.alloc (.cells cs 57)).heap[w2.heap.size]? = some (.cells cs 57 (0, 0))) := alloc_new _ _ rfl
  have HA3 : Hid ((w2.alloc (.cells cs 57)).heap[w.heap.size]? = some (.cells #[.int .u8 0, .int .u8 0, .int .u8 0, .int .u8 0, .int .u8 0, .int .u8 0, .int .u8 0, .int .u8 0, .int .u8 0, .int .u8 0, .int .u8 0, .int .u8 0, .int .u8 0, .int .u8 0, .int .u8 0, .int .u8 0, .int .u8 0, .int .u8 0, .int .u8 0, .int .u8 0, .int .u8 0, .int .u8 0, .int .u8 0, .int .u8 0, .int .u8 0, .int .u8 0, .int .u8 0, .int .u8 0, .int .u8 0, .int .u8 0, .int .u8 0, .int .u8 0] 57 (0, 0))) := alloc_old HA2.out
  have HKR : Hid (Kept (fun _ => False) w ((w2.alloc (.cells cs 57)).setRow w.heap.size cs)) := (HK2.out.alloc _).setRow (.inl (Nat.le_refl _)) _
  have HRR := hid_of (setRow_heap (w2.alloc (.cells cs 57)) w.heap.size _ cs 57 (0, 0) HA3.out)
  clear hk2 HC HK1 HA1
  go_wp2_with (first | refine wpList_load_row rfl 57 _ rfl w2.heap.size rfl 57 cs (0, 0) _ HD.out Tryd.underlying57 rfl hs57 ?_ | (refine wpList_store_row rfl 57 _ _ rfl w2.heap.size cs rfl rfl 57 _ (alloc_new _ _ rfl) hs57 HOS.out hone ?_; rw [setRow_new _ _ _ _ rfl]) | refine wpList_store_row rfl 57 _ _ rfl w.heap.size cs rfl rfl 57 _ HA3.out hs57 HOS.out hone ?_)
  try simp only [Act.put]
  refine bodyPost_ret (v := .agg cs) ?_ rfl ⟨rfl, HKR.out⟩
  exact results_cell_row (by rfl) _ _ w.heap.size 57 cs (0, 0) _ (by rfl) HRR.out Tryd.underlying57 rfl hs57

set_option maxHeartbeats 2000000 in
theorem rof4_any (k : Nat) (h1 : 1 ≤ k) (h2 : k ≤ 32) (bv : Value) (xs : List Int) (w : World) (hx : BIn w bv xs) (hr : ∀ x ∈ xs, 0 ≤ x ∧ x < 256) (hn : xs.length ≤ 4294967296) :
    Calls Tryd.prog 8 #[.int .i64 (k : Int), bv] w fun e w' => e = .returned (dv (frontOf k xs)) ∧ Kept (fun _ => False) w w' := by
  have HO : Hid (∀ W, Kept (fun _ => False) w W → Calls Tryd.prog 28 #[bv, .int .i64 (k : Int)] W fun e w' => e = .returned (dv (frontOf k xs)) ∧ Kept (fun _ => False) W w') := fun W hW => rfront_any k h1 h2 bv xs W (hx.kept hW (fun _ _ f => f)) hr hn
  have hfl := frontOf_len k xs h2
  have hone := oneCells .u8 (frontOf k xs)
  have hs57 : (Tryd.prog.info? 57).map (·.size) = some ((frontOf k xs).map (Value.int .u8)).toArray.size := by simp [size31, hfl]
  have hs28 : (Tryd.prog.info? 28).map (·.size) = some ((frontOf k xs).map (Value.int .u8)).toArray.size := by simp [size28, hfl]
  have HOS : Hid (32 = ((frontOf k xs).map (Value.int .u8)).toArray.size) := by show 32 = _; simp [hfl]
  unfold dv at *
  clear hx hr hfl
  generalize ((frontOf k xs).map (Value.int .u8)).toArray = cs at *
  go_enter Tryd.func8, Tryd.ntmps8
  go_wp2_with fail
  have HA : Hid ((w.alloc (.cells #[.int .u8 0, .int .u8 0, .int .u8 0, .int .u8 0, .int .u8 0, .int .u8 0, .int .u8 0, .int .u8 0, .int .u8 0, .int .u8 0, .int .u8 0, .int .u8 0, .int .u8 0, .int .u8 0, .int .u8 0, .int .u8 0, .int .u8 0, .int .u8 0, .int .u8 0, .int .u8 0, .int .u8 0, .int .u8 0, .int .u8 0, .int .u8 0, .int .u8 0, .int .u8 0, .int .u8 0, .int .u8 0, .int .u8 0, .int .u8 0, .int .u8 0, .int .u8 0] 28)).heap[w.heap.size]? = some (.cells #[.int .u8 0, .int .u8 0, .int .u8 0, .int .u8 0, .int .u8 0, .int .u8 0, .int .u8 0, .int .u8 0, .int .u8 0, .int .u8 0, .int .u8 0, .int .u8 0, .int .u8 0, .int .u8 0, .int .u8 0, .int .u8 0, .int .u8 0, .int .u8 0, .int .u8 0, .int .u8 0, .int .u8 0, .int .u8 0, .int .u8 0, .int .u8 0, .int .u8 0, .int .u8 0, .int .u8 0, .int .u8 0, .int .u8 0, .int .u8 0, .int .u8 0, .int .u8 0] 28 (0, 0))) := alloc_new _ _ rfl
  have HKA : Hid (Kept (fun _ => False) w (w.alloc (.cells #[.int .u8 0, .int .u8 0, .int .u8 0, .int .u8 0, .int .u8 0, .int .u8 0, .int .u8 0, .int .u8 0, .int .u8 0, .int .u8 0, .int .u8 0, .int .u8 0, .int .u8 0, .int .u8 0, .int .u8 0, .int .u8 0, .int .u8 0, .int .u8 0, .int .u8 0, .int .u8 0, .int .u8 0, .int .u8 0, .int .u8 0, .int .u8 0, .int .u8 0, .int .u8 0, .int .u8 0, .int .u8 0, .int .u8 0, .int .u8 0, .int .u8 0, .int .u8 0] 28))) := (Kept.refl _ w).alloc _
  generalize w.alloc (.cells #[.int .u8 0, .int .u8 0, .int .u8 0, .int .u8 0, .int .u8 0, .int .u8 0, .int .u8 0, .int .u8 0, .int .u8 0, .int .u8 0, .int .u8 0, .int .u8 0, .int .u8 0, .int .u8 0, .int .u8 0, .int .u8 0, .int .u8 0, .int .u8 0, .int .u8 0, .int .u8 0, .int .u8 0, .int .u8 0, .int .u8 0, .int .u8 0, .int .u8 0, .int .u8 0, .int .u8 0, .int .u8 0, .int .u8 0, .int .u8 0, .int .u8 0, .int .u8 0] 28) = wA at *
  refine (HO.out wA HKA.out).mono ?_
  rintro e w2 ⟨rfl, hk2⟩
  have HK2 := hid_of (HKA.out.trans hk2)
  have HA2 := hid_of ((hk2.block _ (heap_lt HA.out) (fun f => f)).trans HA.out)
  have HD : Hid ((w2.alloc (.cells cs 57)).heap[w2.heap.size]? = some (.cells cs 57 (0, 0))) := alloc_new _ _ rfl
  have HA3 : Hid ((w2.alloc (.cells cs 57)).heap[w.heap.size]? = some (.cells #[.int .u8 0, .int .u8 0, .int .u8 0, .int .u8 0, .int .u8 0, .int .u8 0, .int .u8 0, .int .u8 0, .int .u8 0, .int .u8 0, .int .u8 0, .int .u8 0, .int .u8 0, .int .u8 0, .int .u8 0, .int .u8 0, .int .u8 0, .int .u8 0, .int .u8 0, .int .u8 0, .int .u8 0, .int .u8 0, .int .u8 0, .int .u8 0, .int .u8 0, .int .u8 0, .int .u8 0, .int .u8 0, .int .u8 0, .int .u8 0, .int .u8 0, .int .u8 0] 28 (0, 0))) := alloc_old HA2.out
  have HKR : Hid (Kept (fun _ => False) w ((w2.alloc (.cells cs 57)).setRow w.heap.size cs)) := (HK2.out.alloc _).setRow (.inl (Nat.le_refl _)) _
  have HRR := hid_of (setRow_heap (w2.alloc (.cells cs 57)) w.heap.size _ cs 28 (0, 0) HA3.out)
  clear hk2 HO HKA HA
  go_wp2_with (first | refine wpList_load_row rfl 57 _ rfl w2.heap.size rfl 57 cs (0, 0) _ HD.out Tryd.underlying57 rfl hs57 ?_ | (refine wpList_store_row rfl 57 _ _ rfl w2.heap.size cs rfl rfl 57 _ (alloc_new _ _ rfl) hs57 HOS.out hone ?_; rw [setRow_new _ _ _ _ rfl]) | refine wpList_store_row rfl 28 _ _ rfl w.heap.size cs rfl rfl 28 _ HA3.out hs28 HOS.out hone ?_)
  try simp only [Act.put]
  refine bodyPost_ret (v := .agg cs) ?_ rfl ⟨rfl, HKR.out⟩
  exact results_cell_row (by rfl) _ _ w.heap.size 28 cs (0, 0) _ (by rfl) HRR.out Tryd.underlying28 rfl hs28
end Go.Proofs.YtjdbmjkidljhpaaDoor

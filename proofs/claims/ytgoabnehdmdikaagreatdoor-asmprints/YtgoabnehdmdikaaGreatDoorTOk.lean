/-
  TOk: Ok.
-/
import Derived.Test.YtgoabnehdmdikaaGreatDoorTObx
namespace Go.Proofs.YtgoabnehdmdikaaGreatDoor
open Go.RowKit
set_option linter.unusedVariables false
set_option linter.unusedSimpArgs false
set_option maxRecDepth 100000

theorem size74 : (Tryz.prog.info? 180).map (·.size) = some 3 := by kernel_rfl
/-- A function that captures nothing. -/
abbrev fnV (n : Nat) : Value := .func (.func n) #[] #[]
/-- The three functions of a kind; the kinds from 2 on hold the box of their end. -/
def kindL (bx : Nat → Nat) : Nat → List Value
  | 0 => [fnV 166, fnV 167, fnV 168]
  | 1 => [fnV 169, fnV 170, fnV 172]
  | k => [.func (.func 174) #[] #[.pointer (some ⟨bx k, 0, none⟩)], fnV 175, fnV 176]
theorem kind_len (bx : Nat → Nat) (k : Nat) : (kindL bx k).length = 3 := by
  unfold kindL; split <;> rfl
theorem kind_one (bx : Nat → Nat) (k : Nat) : (kindL bx k).toArray.all (·.oneCell') = true := by
  rw [Array.all_eq_true_iff_forall_mem]
  intro v hv
  unfold kindL at hv
  split at hv <;> (simp at hv; rcases hv with rfl | rfl | rfl <;> rfl)
theorem three_one (a b c : Value) (ha : a.oneCell' = true) (hb : b.oneCell' = true) (hc : c.oneCell' = true) : #[a, b, c].all (·.oneCell') = true := by
  rw [Array.all_eq_true_iff_forall_mem]
  intro v hv
  simp at hv
  rcases hv with rfl | rfl | rfl <;> assumption
/-- Where the numbers of a kind end. -/
def endOf : Nat → Int
  | 2 => 64
  | 3 => 4096
  | 4 => 64
  | 5 => 5
  | 6 => 256
  | _ => 0

set_option maxHeartbeats 4000000 in
theorem below_any (n : Int) (w : World) : Calls Tryz.prog 147 #[.int .i64 n] w fun e w' => e = .returned (.agg #[.func (.func 174) #[] #[.pointer (some ⟨w.heap.size, 0, none⟩)], fnV 175, fnV 176]) ∧ w'.heap[w.heap.size]? = some (.cells #[.int .i64 n] 3 (0, 0)) ∧ Kept (fun _ => False) w w' := by
  have h1 : (w.alloc (.cells #[.int .i64 n] 3)).heap.size = w.heap.size + 1 := by simp
  obtain ⟨hO, hX, hK⟩ := new_row (w.alloc (.cells #[.int .i64 n] 3)) #[.nilFunc, .nilFunc, .nilFunc] #[.func (.func 174) #[] #[.pointer (some ⟨w.heap.size, 0, none⟩)], fnV 175, fnV 176] 180
  rw [h1] at hO hX hK
  have HB := hid_of (box_kept hK (heap_alloc_new w (.cells #[.int .i64 n] 3)) (fun f => f))
  have HK : Hid (Kept (fun _ => False) w _) := ((Kept.refl (fun _ => False) w).alloc (.cells #[.int .i64 n] 3)).trans hK
  have HX := hid_of hX
  clear hX hK h1
  go_enter Tryz.func147, Tryz.ntmps147
  go_wp2_with (refine wpList_store_row rfl 180 _ _ rfl (w.heap.size + 1) #[.func (.func 174) #[] #[.pointer (some ⟨w.heap.size, 0, none⟩)], fnV 175, fnV 176] rfl rfl 180 _ hO size74 rfl (three_one _ _ _ rfl rfl rfl) ?_)
  refine bodyPost_ret (v := .agg #[.func (.func 174) #[] #[.pointer (some ⟨w.heap.size, 0, none⟩)], fnV 175, fnV 176]) ?_ rfl ⟨rfl, HB.out, HK.out⟩
  exact results_cell_row (by rfl) _ _ (w.heap.size + 1) 180 _ (0, 0) _ (by rfl) HX.out Tryz.underlying180 rfl size74
set_option maxHeartbeats 4000000 in
theorem none_any (w : World) : Calls Tryz.prog 145 #[] w fun e w' => e = .returned (.agg #[fnV 166, fnV 167, fnV 168]) ∧ Kept (fun _ => False) w w' := by
  obtain ⟨hO, hX, hK⟩ := new_row w #[.nilFunc, .nilFunc, .nilFunc] #[fnV 166, fnV 167, fnV 168] 180
  have HX := hid_of hX
  have HK := hid_of hK
  clear hX hK
  go_enter Tryz.func145, Tryz.ntmps145
  go_wp2_with (refine wpList_store_row rfl 180 _ _ rfl w.heap.size #[fnV 166, fnV 167, fnV 168] rfl rfl 180 _ hO size74 rfl (three_one _ _ _ rfl rfl rfl) ?_)
  refine bodyPost_ret (v := .agg #[fnV 166, fnV 167, fnV 168]) ?_ rfl ⟨rfl, HK.out⟩
  exact results_cell_row (by rfl) _ _ w.heap.size 180 _ (0, 0) _ (by rfl) HX.out Tryz.underlying180 rfl size74
set_option maxHeartbeats 4000000 in
theorem anynum_any (w : World) : Calls Tryz.prog 146 #[] w fun e w' => e = .returned (.agg #[fnV 169, fnV 170, fnV 172]) ∧ Kept (fun _ => False) w w' := by
  obtain ⟨hO, hX, hK⟩ := new_row w #[.nilFunc, .nilFunc, .nilFunc] #[fnV 169, fnV 170, fnV 172] 180
  have HX := hid_of hX
  have HK := hid_of hK
  clear hX hK
  go_enter Tryz.func146, Tryz.ntmps146
  go_wp2_with (refine wpList_store_row rfl 180 _ _ rfl w.heap.size #[fnV 169, fnV 170, fnV 172] rfl rfl 180 _ hO size74 rfl (three_one _ _ _ rfl rfl rfl) ?_)
  refine bodyPost_ret (v := .agg #[fnV 169, fnV 170, fnV 172]) ?_ rfl ⟨rfl, HK.out⟩
  exact results_cell_row (by rfl) _ _ w.heap.size 180 _ (0, 0) _ (by rfl) HX.out Tryz.underlying180 rfl size74
end Go.Proofs.YtgoabnehdmdikaaGreatDoor

/-
  The list of kinds: what kinds and operands give.
-/
import Derived.Test.YtindhkjcifghhabOk
namespace Go.Proofs.Ytindhkjcifghhab
open Go.RowKit
set_option linter.unusedVariables false
set_option linter.unusedSimpArgs false
set_option maxRecDepth 100000

def bx5 (b2 b3 b4 b5 b6 : Nat) : Nat → Nat
  | 2 => b2
  | 3 => b3
  | 4 => b4
  | 5 => b5
  | 6 => b6
  | _ => 0
/-- All kinds behind one another. -/
def kindsL (bx : Nat → Nat) : List Value := kindL bx 0 ++ kindL bx 1 ++ kindL bx 2 ++ kindL bx 3 ++ kindL bx 4 ++ kindL bx 5 ++ kindL bx 6
/-- The ends lie in their boxes. -/
def Boxes (w : World) (bx : Nat → Nat) : Prop := ∀ k, 2 ≤ k → k ≤ 6 → w.heap[bx k]? = some (.cells #[.int .i64 (endOf k)] 3 (0, 0))
theorem Boxes.kept {S : Nat → Prop} {w w' : World} {bx : Nat → Nat} (h : Boxes w bx) (hk : Kept S w w') (hS : ∀ k, 2 ≤ k → k ≤ 6 → ¬ S (bx k)) : Boxes w' bx := fun k h1 h2 => box_kept hk (h k h1 h2) (hS k h1 h2)

theorem built92 (bx : Nat → Nat) : Try.prog.built 79 [(0, .agg (kindL bx 0).toArray), (1, .agg (kindL bx 1).toArray), (2, .agg (kindL bx 2).toArray), (3, .agg (kindL bx 3).toArray), (4, .agg (kindL bx 4).toArray), (5, .agg (kindL bx 5).toArray), (6, .agg (kindL bx 6).toArray)] = some (kindsL bx).toArray := by kernel_rfl
theorem size92 (bx : Nat → Nat) : (Try.prog.info? 79).map (·.size) = some (kindsL bx).toArray.size := by kernel_rfl
theorem kinds_one (bx : Nat → Nat) : (kindsL bx).toArray.all (·.oneCell') = true := by
  rw [Array.all_eq_true_iff_forall_mem]
  intro v hv
  have h := fun k => Array.all_eq_true_iff_forall_mem.1 (kind_one bx k) v
  have hv' : v ∈ kindsL bx := by simpa using hv
  unfold kindsL at hv'
  simp only [List.mem_append] at hv'
  rcases hv' with (((((h0 | h0) | h0) | h0) | h0) | h0) | h0 <;> exact h _ (by simpa using h0)
def z92 : Array Value := (List.replicate 21 Value.nilFunc).toArray

theorem wpList_tab92 {ops : Array Oper} {o : Oper} {a : Act} {w : World} {Q : Exit → Act → World → Prop} {rest : List Oper} (bx : Nat → Nat) (hg : o.guard = none) (parts : Array (Nat × Operand)) (ho : o.op = .build 79 parts)
    (e : (parts.map fun (i, x) => (i, a.eval x)).toList = [(0, .agg (kindL bx 0).toArray), (1, .agg (kindL bx 1).toArray), (2, .agg (kindL bx 2).toArray), (3, .agg (kindL bx 3).toArray), (4, .agg (kindL bx 4).toArray), (5, .agg (kindL bx 5).toArray), (6, .agg (kindL bx 6).toArray)])
    (h : wpList Try.prog ops Q rest (a.put o.dst (.agg (kindsL bx).toArray)) w) : wpList Try.prog ops Q (o :: rest) a w := by
  refine wpList_build hg 79 _ ho (by rw [e, built92]; rfl) ?_
  rw [e, built92]
  exact h

set_option maxHeartbeats 4000000 in
theorem kinds_any (w : World) : Calls Try.prog 31 #[] w fun e w' => ∃ bx, e = .returned (.agg (kindsL bx).toArray) ∧ Boxes w' bx ∧ (∀ k, 2 ≤ k → k ≤ 6 → w.heap.size ≤ bx k) ∧ Kept (fun _ => False) w w' := by
  have hB0 := heap_alloc_new w (.cells z92 79)
  have hK0 : Kept (fun _ => False) w (w.alloc (.cells z92 79)) := (Kept.refl _ _).alloc _
  go_enter Try.func31, Try.ntmps31
  go_wp2_with (refine wpList_to rfl (some 0) rfl (.pointer (some ⟨w.heap.size, 0, none⟩)) (w.alloc (.cells z92 79)) (by kernel_rfl) ?_)
  generalize w.alloc (.cells z92 79) = w0 at *
  refine (none_any w0).mono ?_
  rintro e w1 ⟨rfl, hk1⟩
  have HB1 := hid_of (box_kept hk1 hB0 (fun f => f))
  have HK1 := hid_of (hK0.trans hk1)
  clear hB0 hK0 hk1
  go_wp2_with fail
  refine (anynum_any w1).mono ?_
  rintro e w2 ⟨rfl, hk2⟩
  have HB2 := hid_of (box_kept hk2 HB1.out (fun f => f))
  have HK2 := hid_of (HK1.out.trans hk2)
  clear hk2 HB1 HK1
  go_wp2_with fail
  refine (below_any 64 w2).mono ?_
  rintro e w3 ⟨rfl, hx2, hk3⟩
  have HX2_3 := hid_of hx2
  have HN2 : Hid (w.heap.size ≤ w2.heap.size) := HK2.out.size
  have HB3 := hid_of (box_kept hk3 HB2.out (fun f => f))
  have HK3 := hid_of (HK2.out.trans hk3)
  clear hx2 hk3 HB2 HK2 
  generalize w2.heap.size = b2 at *
  go_wp2_with fail
  refine (below_any 4096 w3).mono ?_
  rintro e w4 ⟨rfl, hx3, hk4⟩
  have HX2_4 := hid_of (box_kept hk4 HX2_3.out (fun f => f))
  have HX3_4 := hid_of hx3
  have HN3 : Hid (w.heap.size ≤ w3.heap.size) := HK3.out.size
  have HB4 := hid_of (box_kept hk4 HB3.out (fun f => f))
  have HK4 := hid_of (HK3.out.trans hk4)
  clear hx3 hk4 HB3 HK3 HX2_3
  generalize w3.heap.size = b3 at *
  go_wp2_with fail
  refine (below_any 64 w4).mono ?_
  rintro e w5 ⟨rfl, hx4, hk5⟩
  have HX2_5 := hid_of (box_kept hk5 HX2_4.out (fun f => f))
  have HX3_5 := hid_of (box_kept hk5 HX3_4.out (fun f => f))
  have HX4_5 := hid_of hx4
  have HN4 : Hid (w.heap.size ≤ w4.heap.size) := HK4.out.size
  have HB5 := hid_of (box_kept hk5 HB4.out (fun f => f))
  have HK5 := hid_of (HK4.out.trans hk5)
  clear hx4 hk5 HB4 HK4 HX2_4 HX3_4
  generalize w4.heap.size = b4 at *
  go_wp2_with fail
  refine (below_any 5 w5).mono ?_
  rintro e w6 ⟨rfl, hx5, hk6⟩
  have HX2_6 := hid_of (box_kept hk6 HX2_5.out (fun f => f))
  have HX3_6 := hid_of (box_kept hk6 HX3_5.out (fun f => f))
  have HX4_6 := hid_of (box_kept hk6 HX4_5.out (fun f => f))
  have HX5_6 := hid_of hx5
  have HN5 : Hid (w.heap.size ≤ w5.heap.size) := HK5.out.size
  have HB6 := hid_of (box_kept hk6 HB5.out (fun f => f))
  have HK6 := hid_of (HK5.out.trans hk6)
  clear hx5 hk6 HB5 HK5 HX2_5 HX3_5 HX4_5
  generalize w5.heap.size = b5 at *
  go_wp2_with fail
  refine (below_any 256 w6).mono ?_
  rintro e w7 ⟨rfl, hx6, hk7⟩
  have HX2_7 := hid_of (box_kept hk7 HX2_6.out (fun f => f))
  have HX3_7 := hid_of (box_kept hk7 HX3_6.out (fun f => f))
  have HX4_7 := hid_of (box_kept hk7 HX4_6.out (fun f => f))
  have HX5_7 := hid_of (box_kept hk7 HX5_6.out (fun f => f))
  have HX6_7 := hid_of hx6
  have HN6 : Hid (w.heap.size ≤ w6.heap.size) := HK6.out.size
  have HB7 := hid_of (box_kept hk7 HB6.out (fun f => f))
  have HK7 := hid_of (HK6.out.trans hk7)
  clear hx6 hk7 HB6 HK6 HX2_6 HX3_6 HX4_6 HX5_6
  generalize w6.heap.size = b6 at *
  have hb7 := HB7.out
  have HXR := hid_of (setRow_heap w7 w.heap.size _ (kindsL (bx5 b2 b3 b4 b5 b6)).toArray 79 (0, 0) hb7)
  have hkr := kept_row w7 w.heap.size (kindsL (bx5 b2 b3 b4 b5 b6)).toArray
  have HKR := hid_of (HK7.out.step hkr (fun i hi e => by omega))
  have HBX : Hid (Boxes (w7.setRow w.heap.size (kindsL (bx5 b2 b3 b4 b5 b6)).toArray) (bx5 b2 b3 b4 b5 b6)) := by
    have hne : ∀ b c t, w7.heap[b]? = some (.cells c t (0, 0)) → t = 3 → b ≠ w.heap.size := fun b c t h ht e => by
      subst e
      rw [hb7] at h
      cases h
      cases ht
    intro k h1 h2
    match k, h1, h2 with
    | 2, _, _ => exact box_kept hkr HX2_7.out (hne _ _ _ HX2_7.out rfl)
    | 3, _, _ => exact box_kept hkr HX3_7.out (hne _ _ _ HX3_7.out rfl)
    | 4, _, _ => exact box_kept hkr HX4_7.out (hne _ _ _ HX4_7.out rfl)
    | 5, _, _ => exact box_kept hkr HX5_7.out (hne _ _ _ HX5_7.out rfl)
    | 6, _, _ => exact box_kept hkr HX6_7.out (hne _ _ _ HX6_7.out rfl)
  have HLO : Hid (∀ k, 2 ≤ k → k ≤ 6 → w.heap.size ≤ bx5 b2 b3 b4 b5 b6 k) := by
    intro k h1 h2
    match k, h1, h2 with
    | 2, _, _ => exact HN2.out
    | 3, _, _ => exact HN3.out
    | 4, _, _ => exact HN4.out
    | 5, _, _ => exact HN5.out
    | 6, _, _ => exact HN6.out
  clear hkr HB7 HK7 HN2 HN3 HN4 HN5 HN6 HX2_7 HX3_7 HX4_7 HX5_7 HX6_7
  go_wp2_with (first | refine wpList_tab92 (bx5 b2 b3 b4 b5 b6) rfl _ rfl (by kernel_rfl) ?_ | refine wpList_store_row rfl 79 _ _ rfl w.heap.size (kindsL (bx5 b2 b3 b4 b5 b6)).toArray rfl rfl 79 _ hb7 (size92 _) (by kernel_rfl) (kinds_one _) ?_)
  refine bodyPost_ret (v := .agg (kindsL (bx5 b2 b3 b4 b5 b6)).toArray) ?_ rfl ⟨_, rfl, HBX.out, HLO.out, HKR.out⟩
  exact results_cell_row (by rfl) _ _ w.heap.size 79 _ (0, 0) _ (by rfl) HXR.out Try.underlying79 rfl (size92 _)

theorem run_ix57 (w : World) : ∀ k : Nat, k < 46 → (Instr.index 82 (.agg (tcells insL).toArray) (.int .i64 (k : Int))).run Try.prog w = .ok (.agg (insL.getD k Sh.none).cells.toArray) w
  | 0, _ => by kernel_rfl
  | 1, _ => by kernel_rfl
  | 2, _ => by kernel_rfl
  | 3, _ => by kernel_rfl
  | 4, _ => by kernel_rfl
  | 5, _ => by kernel_rfl
  | 6, _ => by kernel_rfl
  | 7, _ => by kernel_rfl
  | 8, _ => by kernel_rfl
  | 9, _ => by kernel_rfl
  | 10, _ => by kernel_rfl
  | 11, _ => by kernel_rfl
  | 12, _ => by kernel_rfl
  | 13, _ => by kernel_rfl
  | 14, _ => by kernel_rfl
  | 15, _ => by kernel_rfl
  | 16, _ => by kernel_rfl
  | 17, _ => by kernel_rfl
  | 18, _ => by kernel_rfl
  | 19, _ => by kernel_rfl
  | 20, _ => by kernel_rfl
  | 21, _ => by kernel_rfl
  | 22, _ => by kernel_rfl
  | 23, _ => by kernel_rfl
  | 24, _ => by kernel_rfl
  | 25, _ => by kernel_rfl
  | 26, _ => by kernel_rfl
  | 27, _ => by kernel_rfl
  | 28, _ => by kernel_rfl
  | 29, _ => by kernel_rfl
  | 30, _ => by kernel_rfl
  | 31, _ => by kernel_rfl
  | 32, _ => by kernel_rfl
  | 33, _ => by kernel_rfl
  | 34, _ => by kernel_rfl
  | 35, _ => by kernel_rfl
  | 36, _ => by kernel_rfl
  | 37, _ => by kernel_rfl
  | 38, _ => by kernel_rfl
  | 39, _ => by kernel_rfl
  | 40, _ => by kernel_rfl
  | 41, _ => by kernel_rfl
  | 42, _ => by kernel_rfl
  | 43, _ => by kernel_rfl
  | 44, _ => by kernel_rfl
  | 45, _ => by kernel_rfl
  | n + 46, h => absurd h (by omega)
end Go.Proofs.Ytindhkjcifghhab

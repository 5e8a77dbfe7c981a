/-
  TKa: Ka.
-/
import Derived.Test.YtgoabnehdmdikaaGreatDoorTSa
namespace Go.Proofs.YtgoabnehdmdikaaGreatDoor
open Go.RowKit
set_option linter.unusedVariables false
set_option linter.unusedSimpArgs false
set_option maxRecDepth 100000

theorem built63 : Tryz.prog.built 214 (tparts sysL) = some (tcells sysL).toArray := by kernel_rfl

theorem size63 : (Tryz.prog.info? 214).map (·.size) = some (tcells sysL).toArray.size := by kernel_rfl

section
variable {ops : Array Oper} {o : Oper} {a : Act} {w : World} {Q : Exit → Act → World → Prop} {rest : List Oper}
theorem wpList_tab63 (hg : o.guard = none) (parts : Array (Nat × Operand)) (ho : o.op = .build 214 parts) (e : (parts.map fun (i, x) => (i, a.eval x)).toList = tparts sysL)
    (h : wpList Tryz.prog ops Q rest (a.put o.dst (.agg (tcells sysL).toArray)) w) : wpList Tryz.prog ops Q (o :: rest) a w := by
  refine wpList_build hg 214 _ ho (by rw [e, built63]; rfl) ?_
  rw [e, built63]
  exact h
end

set_option maxHeartbeats 4000000 in
theorem sys_any (w : World) : Calls Tryz.prog 128 #[] w fun e w' => e = .returned (.agg (tcells sysL).toArray) ∧ Kept (fun _ => False) w w' := by
  obtain ⟨hO, hX, hK⟩ := new_row w z63 (tcells sysL).toArray 214
  go_enter Tryz.func128, Tryz.ntmps128
  go_wp2_with (first | refine wpList_to rfl (some 0) rfl (.pointer (some ⟨w.heap.size, 0, none⟩)) (w.alloc (.cells z63 214)) (by kernel_rfl) ?_ | refine wpList_tab63 rfl _ rfl (by kernel_rfl) ?_ | refine wpList_store_row rfl 214 _ _ rfl w.heap.size (tcells sysL).toArray rfl rfl 214 _ hO size63 (by kernel_rfl) one63 ?_)
  refine bodyPost_ret (v := .agg (tcells sysL).toArray) ?_ rfl ⟨rfl, hK⟩
  exact results_cell_row (by rfl) _ _ w.heap.size 214 _ (0, 0) _ (by rfl) hX Tryz.underlying214 rfl size63

set_option maxHeartbeats 4000000 in
theorem row_any (L : List Sh) (g t : Nat) (n : Int) (w : World) (hg : w.heap[g]? = some (.cells (tcells L).toArray t (0, 0))) (hn0 : -9223372036854775808 ≤ n) (hn1 : n < 9223372036854775808) (hL : L.length ≤ 46) :
    Calls Tryz.prog 127 #[.slice (some ⟨g, 0, none⟩) L.length L.length, .int .i64 n] w fun e w' => e = .returned (.tuple #[.agg (rowS L n).cells.toArray, .bool (isRow L n)]) ∧ Kept (fun _ => False) w w' := by
  by_cases h : 0 ≤ n ∧ n < (L.length : Int)
  · obtain ⟨k, rfl⟩ : ∃ k : Nat, n = k := ⟨n.toNat, by omega⟩
    have hkl : k < L.length := by omega
    have hr : Hid (rowS L (k : Int) = L.getD k Sh.none ∧ isRow L (k : Int) = true) := by
      unfold Hid rowS isRow
      rw [if_pos h, decide_eq_true h]
      exact ⟨by simp, rfl⟩
    generalize hs : L.getD k Sh.none = s at *
    have hc : ∀ j v, s.cells[j]? = some v → w.cell? ⟨g, k * 4 + j, none⟩ = some v := fun j v hv => by
      have hj : j < 4 := by
        have := (List.getElem?_eq_some_iff.1 hv).1
        simpa [Sh.cells] using this
      rw [cell_block _ _ _ _ _ _ hg]
      have := tcells_get L k j hkl hj
      rw [hs, hv] at this
      simpa using this
    have hrg : (w.alloc (.cells Sh.none.cells.toArray 186)).rangeAt g (k * 4) s.cells := fun j v hv => ((Kept.refl (fun _ => False) w).alloc _).cell (hc j v hv) (fun f => f)
    have hk0 : (0 : Int) ≤ (k : Int) := h.1
    have hk1 : (k : Int) < (L.length : Int) := h.2
    have hk2 : ¬ ((k : Int) < 0) := by omega
    obtain ⟨hO, hX, hK⟩ := new_row w (Sh.none.cells.toArray) s.cells.toArray 186
    clear hn0 hn1 hs hc h hg
    generalize L.length = N at *
    go_enter Tryz.func127, Tryz.ntmps127
    go_wp2_with (first | refine wpList_load_mid rfl 186 _ rfl g (k * 4) rfl s.cells _ hrg Tryz.underlying186 rfl size24 ?_ | refine wpList_store_row rfl 186 _ _ rfl w.heap.size s.cells.toArray rfl rfl 186 _ hO size24 rfl (sh_one s) ?_)
    refine bodyPost_ret (v := .tuple #[.agg s.cells.toArray, .bool true]) ?_ rfl ⟨by rw [hr.out.1, hr.out.2], hK⟩
    exact results_row_tmp (by rfl) _ _ ⟨w.heap.size, 0, none⟩ _ _ (by rfl) (by rfl) (run_loadVar_row _ w.heap.size 186 186 _ (0, 0) _ hX Tryz.underlying186 rfl size24)
  · have hr : Hid (rowS L n = Sh.none ∧ isRow L n = false) := by
      unfold Hid rowS isRow
      rw [if_neg h, decide_eq_false h]
      exact ⟨rfl, rfl⟩
    obtain ⟨hO, hX, hK⟩ := new_row w (Sh.none.cells.toArray) Sh.none.cells.toArray 186
    have hd : (decide (n < 0) || decide ((L.length : Int) ≤ n)) = true := by
      rw [Bool.or_eq_true, decide_eq_true_iff, decide_eq_true_iff]
      omega
    clear h hg
    generalize L.length = N at *
    have HX := hid_of (heap_alloc2_old w (.cells Sh.none.cells.toArray 186) (.cells Sh.none.cells.toArray 186))
    have HK := hid_of (((Kept.refl (fun _ => False) w).alloc (.cells Sh.none.cells.toArray 186)).alloc (.cells Sh.none.cells.toArray 186))
    clear hO hX hK
    go_enter Tryz.func127, Tryz.ntmps127
    go_wp2
    all_goals
      refine bodyPost_ret (v := .tuple #[.agg Sh.none.cells.toArray, .bool false]) ?_ rfl ⟨by rw [hr.out.1, hr.out.2], HK.out⟩
      exact results_row_tmp (by rfl) _ _ ⟨w.heap.size, 0, none⟩ _ _ (by rfl) (by rfl) (run_loadVar_row _ w.heap.size 186 186 _ (0, 0) _ HX.out Tryz.underlying186 rfl size24)

set_option maxHeartbeats 4000000 in
theorem of_any (n : Int) (w : World) (hn0 : -9223372036854775808 ≤ n) (hn1 : n < 9223372036854775808) :
    Calls Tryz.prog 100 #[.int .i64 n] w fun e w' => e = .returned (.tuple #[.agg (rowS insL n).cells.toArray, .bool (isRow insL n)]) ∧ Kept (fun _ => False) w w' := by
  have hB0 := heap_alloc_new w (.cells Sh.none.cells.toArray 186)
  have hK0 : Kept (fun _ => False) w (w.alloc (.cells Sh.none.cells.toArray 186)) := (Kept.refl _ _).alloc _
  go_enter Tryz.func100, Tryz.ntmps100
  go_wp2_with fail
  refine (ins_any _).mono ?_
  rintro e w1 ⟨rfl, hk1⟩
  have HB1 := hid_of (box_kept hk1 hB0 (fun f => f))
  have HK1 := hid_of (hK0.trans hk1)
  clear hB0 hk1 hK0
  obtain ⟨hO, hX, hK⟩ := new_row w1 z57 (tcells insL).toArray 205
  go_upto_region 2 with (first | refine wpList_to rfl (some 4) rfl (.pointer (some ⟨w1.heap.size, 0, none⟩)) (w1.alloc (.cells z57 205)) (by kernel_rfl) ?_ | refine wpList_store_row rfl 205 _ _ rfl w1.heap.size (tcells insL).toArray rfl rfl 205 _ hO size57 (by kernel_rfl) one57 ?_)
  clear hO
  generalize (w1.alloc (.cells z57 205)).setRow w1.heap.size (tcells insL).toArray = w2 at *
  have HB2 := hid_of (box_kept hK HB1.out (fun f => f))
  have HK2 := hid_of (HK1.out.trans hK)
  have HR := hid_of (row_any insL w1.heap.size 205 n w2 hX hn0 hn1 (by decide))
  clear hK HB1 HK1
  go_wp2_with fail
  refine HR.out.mono ?_
  rintro e w3 ⟨rfl, hk3⟩
  have HK3 := hid_of (HK2.out.trans hk3)
  have hB3 := box_kept hk3 HB2.out (fun f => f)
  clear hk3 HR HB2 HK2 hX
  obtain ⟨s, hs⟩ : ∃ s, rowS insL n = s := ⟨_, rfl⟩
  obtain ⟨b, hb⟩ : ∃ b, isRow insL n = b := ⟨_, rfl⟩
  rw [hs, hb]
  have HS := hid_of hs
  have HB := hid_of hb
  clear hs hb
  have HX := hid_of (setRow_heap w3 w.heap.size _ s.cells.toArray 186 (0, 0) hB3)
  have HKX := hid_of (HK3.out.step (kept_row w3 w.heap.size s.cells.toArray) (fun i hi e => by omega))
  go_wp2_with (refine wpList_store_row rfl 186 _ _ rfl w.heap.size s.cells.toArray rfl rfl 186 _ hB3 size24 rfl (sh_one s) ?_)
  refine bodyPost_ret (v := .tuple #[.agg s.cells.toArray, .bool b]) ?_ rfl ⟨by rw [HS.out, HB.out], HKX.out⟩
  exact results_row_tmp (by rfl) _ _ ⟨w.heap.size, 0, none⟩ _ _ (by rfl) (by rfl) (run_loadVar_row _ w.heap.size 186 186 _ (0, 0) _ HX.out Tryz.underlying186 rfl size24)

set_option maxHeartbeats 4000000 in
theorem sysof_any (n : Int) (w : World) (hn0 : -9223372036854775808 ≤ n) (hn1 : n < 9223372036854775808) :
    Calls Tryz.prog 101 #[.int .i64 n] w fun e w' => e = .returned (.tuple #[.agg (rowS sysL n).cells.toArray, .bool (isRow sysL n)]) ∧ Kept (fun _ => False) w w' := by
  have hB0 := heap_alloc_new w (.cells Sh.none.cells.toArray 186)
  have hK0 : Kept (fun _ => False) w (w.alloc (.cells Sh.none.cells.toArray 186)) := (Kept.refl _ _).alloc _
  go_enter Tryz.func101, Tryz.ntmps101
  go_wp2_with fail
  refine (sys_any _).mono ?_
  rintro e w1 ⟨rfl, hk1⟩
  have HB1 := hid_of (box_kept hk1 hB0 (fun f => f))
  have HK1 := hid_of (hK0.trans hk1)
  clear hB0 hk1 hK0
  obtain ⟨hO, hX, hK⟩ := new_row w1 z63 (tcells sysL).toArray 214
  go_upto_region 2 with (first | refine wpList_to rfl (some 4) rfl (.pointer (some ⟨w1.heap.size, 0, none⟩)) (w1.alloc (.cells z63 214)) (by kernel_rfl) ?_ | refine wpList_store_row rfl 214 _ _ rfl w1.heap.size (tcells sysL).toArray rfl rfl 214 _ hO size63 (by kernel_rfl) one63 ?_)
  clear hO
  generalize (w1.alloc (.cells z63 214)).setRow w1.heap.size (tcells sysL).toArray = w2 at *
  have HB2 := hid_of (box_kept hK HB1.out (fun f => f))
  have HK2 := hid_of (HK1.out.trans hK)
  have HR := hid_of (row_any sysL w1.heap.size 214 n w2 hX hn0 hn1 (by decide))
  clear hK HB1 HK1
  go_wp2_with fail
  refine HR.out.mono ?_
  rintro e w3 ⟨rfl, hk3⟩
  have HK3 := hid_of (HK2.out.trans hk3)
  have hB3 := box_kept hk3 HB2.out (fun f => f)
  clear hk3 HR HB2 HK2 hX
  obtain ⟨s, hs⟩ : ∃ s, rowS sysL n = s := ⟨_, rfl⟩
  obtain ⟨b, hb⟩ : ∃ b, isRow sysL n = b := ⟨_, rfl⟩
  rw [hs, hb]
  have HS := hid_of hs
  have HB := hid_of hb
  clear hs hb
  have HX := hid_of (setRow_heap w3 w.heap.size _ s.cells.toArray 186 (0, 0) hB3)
  have HKX := hid_of (HK3.out.step (kept_row w3 w.heap.size s.cells.toArray) (fun i hi e => by omega))
  go_wp2_with (refine wpList_store_row rfl 186 _ _ rfl w.heap.size s.cells.toArray rfl rfl 186 _ hB3 size24 rfl (sh_one s) ?_)
  refine bodyPost_ret (v := .tuple #[.agg s.cells.toArray, .bool b]) ?_ rfl ⟨by rw [HS.out, HB.out], HKX.out⟩
  exact results_row_tmp (by rfl) _ _ ⟨w.heap.size, 0, none⟩ _ _ (by rfl) (by rfl) (run_loadVar_row _ w.heap.size 186 186 _ (0, 0) _ HX.out Tryz.underlying186 rfl size24)

end Go.Proofs.YtgoabnehdmdikaaGreatDoor

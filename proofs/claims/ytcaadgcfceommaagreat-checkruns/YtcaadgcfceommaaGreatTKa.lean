import Derived.Test.YtcaadgcfceommaaGreatTPa
import Derived.Deep.MidRow
namespace Go.Proofs.YtcaadgcfceommaaGreat
open Go.RowKit
set_option linter.unusedVariables false
set_option linter.unusedSimpArgs false
set_option maxRecDepth 100000
theorem built63 : Tryz.prog.built 157 (tparts sysL) = some (tcells sysL).toArray := by kernel_rfl
theorem size63 : (Tryz.prog.info? 157).map (·.size) = some (tcells sysL).toArray.size := by kernel_rfl
section
variable {ops : Array Oper} {o : Oper} {a : Act} {w : World} {Q : Exit → Act → World → Prop} {rest : List Oper}
theorem wpList_tab63 (hg : o.guard = none) (parts : Array (Nat × Operand)) (ho : o.op = .build 157 parts) (e : (parts.map fun (i, x) => (i, a.eval x)).toList = tparts sysL)
  (h : wpList Tryz.prog ops Q rest (a.put o.dst (.agg (tcells sysL).toArray)) w) : wpList Tryz.prog ops Q (o :: rest) a w := by
 refine wpList_build hg 157 _ ho (by rw [e, built63]; rfl) ?_
 rw [e, built63]
 exact h
end
set_option maxHeartbeats 4000000 in
theorem sys_any (w : World) : Calls Tryz.prog 97 #[] w fun e w' => e = .returned (.agg (tcells sysL).toArray) ∧ KF w w' := by
 obtain ⟨hO, hX, hK⟩ := new_row w z63 (tcells sysL).toArray 157
 go_enter Tryz.func97, Tryz.ntmps97
 go_wp2_with (first | refine wpList_to rfl (some 0) rfl (.pointer (some ⟨w.heap.size, 0, none⟩)) (w.alloc (.cells z63 157)) (by kernel_rfl) ?_ | refine wpList_tab63 rfl _ rfl (by kernel_rfl) ?_ | refine wpList_store_row rfl 157 _ _ rfl w.heap.size (tcells sysL).toArray rfl rfl 157 _ hO size63 (by kernel_rfl) one63 ?_)
 refine bodyPost_ret (v := .agg (tcells sysL).toArray) ?_ rfl ⟨rfl, hK⟩
 exact results_cell_row (by rfl) _ _ w.heap.size 157 _ (0, 0) _ (by rfl) hX Tryz.underlying157 rfl size63
set_option maxHeartbeats 4000000 in
theorem row_any (L : List Sh) (g t : Nat) (n : Int) (w : World) (hg : w.heap[g]? = some (.cells (tcells L).toArray t (0, 0))) (hn0 : -9223372036854775808 ≤ n) (hn1 : n < 9223372036854775808) (hL : L.length ≤ 46) :
  Calls Tryz.prog 98 #[.slice (some ⟨g, 0, none⟩) L.length L.length, .int .i64 n] w fun e w' => e = .returned (.tuple #[.agg (rowS L n).cells.toArray, .bool (isRow L n)]) ∧ KF w w' := by
 by_cases h : 0 ≤ n ∧ n < (L.length : Int)
 ·obtain ⟨k, rfl⟩ : ∃ k : Nat, n = k := ⟨n.toNat, by omega⟩
  have hkl : k < L.length := by omega
  have hr : Hid (rowS L (k : Int) = L.getD k Sh.none ∧ isRow L (k : Int) = true) := by
   unfold Hid rowS isRow
   rw [if_pos h, decide_eq_true h]
   exact ⟨by simp, rfl⟩
  generalize hs : L.getD k Sh.none = s at *
  have hc : ∀ j v, s.cells[j]? = some v → w.cell? ⟨g, k * 4 + j, none⟩ = some v := fun j v hv => by
   have hj : j < 4 := by
    have := (List.getElem?_eq_some_iff.1 hv).1
    simpa [Sh.cells] using this
   rw [cell_block _ _ _ _ _ _ hg]
   have := tcells_get L k j hkl hj
   rw [hs, hv] at this
   simpa using this
  have hrg : (w.alloc (.cells Sh.none.cells.toArray 134)).rangeAt g (k * 4) s.cells := fun j v hv => ((Kept.refl (fun _ => False) w).alloc _).cell (hc j v hv) id
  have hk0 : (0 : Int) ≤ (k : Int) := h.1
  have hk1 : (k : Int) < (L.length : Int) := h.2
  have hk2 : ¬ ((k : Int) < 0) := by omega
  obtain ⟨hO, hX, hK⟩ := new_row w (Sh.none.cells.toArray) s.cells.toArray 134
  clear hn0 hn1 hs hc h hg
  generalize L.length = N at *
  go_enter Tryz.func98, Tryz.ntmps98
  go_wp2_with (first | refine wpList_load_mid rfl 134 _ rfl g (k * 4) rfl s.cells _ hrg Tryz.underlying134 rfl size24 ?_ | refine wpList_store_row rfl 134 _ _ rfl w.heap.size s.cells.toArray rfl rfl 134 _ hO size24 rfl (sh_one s) ?_)
  refine bodyPost_ret (v := .tuple #[.agg s.cells.toArray, .bool true]) ?_ rfl ⟨by rw [hr.out.1, hr.out.2], hK⟩
  exact results_row_tmp (by rfl) _ _ ⟨w.heap.size, 0, none⟩ _ _ (by rfl) (by rfl) (run_loadVar_row _ w.heap.size 134 134 _ (0, 0) _ hX Tryz.underlying134 rfl size24)
 ·have hr : Hid (rowS L n = Sh.none ∧ isRow L n = false) := by
   unfold Hid rowS isRow
   rw [if_neg h, decide_eq_false h]
   exact ⟨rfl, rfl⟩
  obtain ⟨hO, hX, hK⟩ := new_row w (Sh.none.cells.toArray) Sh.none.cells.toArray 134
  have hd : (decide (n < 0) || decide ((L.length : Int) ≤ n)) = true := by
   rw [Bool.or_eq_true, decide_eq_true_iff, decide_eq_true_iff]
   omega
  clear h hg
  generalize L.length = N at *
  have HX := hid_of (heap_alloc2_old w (.cells Sh.none.cells.toArray 134) (.cells Sh.none.cells.toArray 134))
  have HK := hid_of (((Kept.refl (fun _ => False) w).alloc (.cells Sh.none.cells.toArray 134)).alloc (.cells Sh.none.cells.toArray 134))
  clear hO hX hK
  go_enter Tryz.func98, Tryz.ntmps98
  go_wp2
  all_goals
   refine bodyPost_ret (v := .tuple #[.agg Sh.none.cells.toArray, .bool false]) ?_ rfl ⟨by rw [hr.out.1, hr.out.2], HK.out⟩
   exact results_row_tmp (by rfl) _ _ ⟨w.heap.size, 0, none⟩ _ _ (by rfl) (by rfl) (run_loadVar_row _ w.heap.size 134 134 _ (0, 0) _ HX.out Tryz.underlying134 rfl size24)
set_option maxHeartbeats 4000000 in
theorem of_any (n : Int) (w : World) (hn0 : -9223372036854775808 ≤ n) (hn1 : n < 9223372036854775808) :
  Calls Tryz.prog 78 #[.int .i64 n] w fun e w' => e = .returned (.tuple #[.agg (rowS insL n).cells.toArray, .bool (isRow insL n)]) ∧ KF w w' := by
 have hB0 := heap_alloc_new w (.cells Sh.none.cells.toArray 134)
 have hK0 : KF w (w.alloc (.cells Sh.none.cells.toArray 134)) := (Kept.refl _ _).alloc _
 go_enter Tryz.func78, Tryz.ntmps78
 go_wp2_with fail
 refine (ins_any _).mono ?_
 rintro e w1 ⟨rfl, hk1⟩
 have HB1 := hid_of (box_kept hk1 hB0 id)
 have HK1 := hid_of (hK0.trans hk1)
 clear hB0 hk1 hK0
 obtain ⟨hO, hX, hK⟩ := new_row w1 z57 (tcells insL).toArray 161
 go_upto_region 2 with (first | refine wpList_to rfl (some 4) rfl (.pointer (some ⟨w1.heap.size, 0, none⟩)) (w1.alloc (.cells z57 161)) (by kernel_rfl) ?_ | refine wpList_store_row rfl 161 _ _ rfl w1.heap.size (tcells insL).toArray rfl rfl 161 _ hO size57 (by kernel_rfl) one57 ?_)
 clear hO
 generalize (w1.alloc (.cells z57 161)).setRow w1.heap.size (tcells insL).toArray = w2 at *
 have HB2 := hid_of (box_kept hK HB1.out id)
 have HK2 := hid_of (HK1.out.trans hK)
 have HR := hid_of (row_any insL w1.heap.size 161 n w2 hX hn0 hn1 (by decide))
 clear hK HB1 HK1
 go_wp2_with fail
 refine HR.out.mono ?_
 rintro e w3 ⟨rfl, hk3⟩
 have HK3 := hid_of (HK2.out.trans hk3)
 have hB3 := box_kept hk3 HB2.out id
 clear hk3 HR HB2 HK2 hX
 obtain ⟨s, hs⟩ : ∃ s, rowS insL n = s := ⟨_, rfl⟩
 obtain ⟨b, hb⟩ : ∃ b, isRow insL n = b := ⟨_, rfl⟩
 rw [hs, hb]
 have HS := hid_of hs
 have HB := hid_of hb
 clear hs hb
 have HX := hid_of (setRow_heap w3 w.heap.size _ s.cells.toArray 134 (0, 0) hB3)
 have HKX := hid_of (HK3.out.step (kept_row w3 w.heap.size s.cells.toArray) (fun i hi e => by omega))
 go_wp2_with (refine wpList_store_row rfl 134 _ _ rfl w.heap.size s.cells.toArray rfl rfl 134 _ hB3 size24 rfl (sh_one s) ?_)
 refine bodyPost_ret (v := .tuple #[.agg s.cells.toArray, .bool b]) ?_ rfl ⟨by rw [HS.out, HB.out], HKX.out⟩
 exact results_row_tmp (by rfl) _ _ ⟨w.heap.size, 0, none⟩ _ _ (by rfl) (by rfl) (run_loadVar_row _ w.heap.size 134 134 _ (0, 0) _ HX.out Tryz.underlying134 rfl size24)
set_option maxHeartbeats 4000000 in
theorem sysof_any (n : Int) (w : World) (hn0 : -9223372036854775808 ≤ n) (hn1 : n < 9223372036854775808) :
  Calls Tryz.prog 77 #[.int .i64 n] w fun e w' => e = .returned (.tuple #[.agg (rowS sysL n).cells.toArray, .bool (isRow sysL n)]) ∧ KF w w' := by
 have hB0 := heap_alloc_new w (.cells Sh.none.cells.toArray 134)
 have hK0 : KF w (w.alloc (.cells Sh.none.cells.toArray 134)) := (Kept.refl _ _).alloc _
 go_enter Tryz.func77, Tryz.ntmps77
 go_wp2_with fail
 refine (sys_any _).mono ?_
 rintro e w1 ⟨rfl, hk1⟩
 have HB1 := hid_of (box_kept hk1 hB0 id)
 have HK1 := hid_of (hK0.trans hk1)
 clear hB0 hk1 hK0
 obtain ⟨hO, hX, hK⟩ := new_row w1 z63 (tcells sysL).toArray 157
 go_upto_region 2 with (first | refine wpList_to rfl (some 4) rfl (.pointer (some ⟨w1.heap.size, 0, none⟩)) (w1.alloc (.cells z63 157)) (by kernel_rfl) ?_ | refine wpList_store_row rfl 157 _ _ rfl w1.heap.size (tcells sysL).toArray rfl rfl 157 _ hO size63 (by kernel_rfl) one63 ?_)
 clear hO
 generalize (w1.alloc (.cells z63 157)).setRow w1.heap.size (tcells sysL).toArray = w2 at *
 have HB2 := hid_of (box_kept hK HB1.out id)
 have HK2 := hid_of (HK1.out.trans hK)
 have HR := hid_of (row_any sysL w1.heap.size 157 n w2 hX hn0 hn1 (by decide))
 clear hK HB1 HK1
 go_wp2_with fail
 refine HR.out.mono ?_
 rintro e w3 ⟨rfl, hk3⟩
 have HK3 := hid_of (HK2.out.trans hk3)
 have hB3 := box_kept hk3 HB2.out id
 clear hk3 HR HB2 HK2 hX
 obtain ⟨s, hs⟩ : ∃ s, rowS sysL n = s := ⟨_, rfl⟩
 obtain ⟨b, hb⟩ : ∃ b, isRow sysL n = b := ⟨_, rfl⟩
 rw [hs, hb]
 have HS := hid_of hs
 have HB := hid_of hb
 clear hs hb
 have HX := hid_of (setRow_heap w3 w.heap.size _ s.cells.toArray 134 (0, 0) hB3)
 have HKX := hid_of (HK3.out.step (kept_row w3 w.heap.size s.cells.toArray) (fun i hi e => by omega))
 go_wp2_with (refine wpList_store_row rfl 134 _ _ rfl w.heap.size s.cells.toArray rfl rfl 134 _ hB3 size24 rfl (sh_one s) ?_)
 refine bodyPost_ret (v := .tuple #[.agg s.cells.toArray, .bool b]) ?_ rfl ⟨by rw [HS.out, HB.out], HKX.out⟩
 exact results_row_tmp (by rfl) _ _ ⟨w.heap.size, 0, none⟩ _ _ (by rfl) (by rfl) (run_loadVar_row _ w.heap.size 134 134 _ (0, 0) _ HX.out Tryz.underlying134 rfl size24)
def ints (l : List Int) : List Value := l.map (Value.int .i64)
theorem ints_len (l : List Int) : (ints l).length = l.length := by simp [ints]
theorem ints_one (l : List Int) : ∀ u ∈ ints l, u.oneCell' = true := by
 intro u hu
 simp only [ints, List.mem_map] at hu
 obtain ⟨x, _, rfl⟩ := hu
 rfl
abbrev OwnN (w : World) (base : Nat) (v : Value) (l : List Int) : Prop := w.ownsRow base 3 1 v l.length (ints l)
def amg (n m : Int) : Bool := decide (0 ≤ n) && decide (n < m)
theorem amg_iff (n m : Int) : amg n m = true ↔ 0 ≤ n ∧ n < m := by simp [amg]
theorem among_any (n m : Int) (w : World) : Calls Tryz.prog 50 #[.int .i64 n, .int .i64 m] w fun e w' => e = .returned (.bool (amg n m)) ∧ w' = w := by
 unfold amg
 by_cases h : 0 ≤ n
 ·rw [decide_eq_true h]
  go_enter Tryz.func50, Tryz.ntmps50
  go_wp2
  go_ret
  exact ⟨rfl, rfl⟩
 ·have hd : decide (0 ≤ n) = false := decide_eq_false h
  rw [hd]
  go_enter Tryz.func50, Tryz.ntmps50
  go_wp2
  go_ret
  exact ⟨rfl, rfl⟩
def wayL (x : IN) (at' : Int) : List Int :=
 if x.op = 1 ∨ x.op = 2 ∨ x.op = 18 then [] else if x.op = 14 then [x.a] else if x.op = 15 ∨ x.op = 16 then (if x.a < at' + 1 then [x.a, at' + 1] else if at' + 1 < x.a then [at' + 1, x.a] else [at' + 1]) else [at' + 1]
set_option maxHeartbeats 2000000 in
theorem compact_ne (g : Nat) (a b : Int) (w : World) (h : w.heap[g]? = some (.cells #[.int .i64 a, .int .i64 b] 3 (0, 0))) (hab : a ≠ b) :
  Calls Tryz.prog 76 #[.slice (some ⟨g, 0, none⟩) 2 2] w fun e w' => e = .returned (.slice (some ⟨g, 0, none⟩) 2 2) ∧ KF w w' := by
 have HB := hid_of h
 have hba : (b == a) = false := by simp; exact fun e => hab e.symm
 clear h
 go_enter Tryz.func76, Tryz.ntmps76
 go_wp2
 go_loopw [3] (fun kv wr => ∃ k : Nat, 1 ≤ k ∧ k ≤ 2 ∧ kv = .int .i64 (k : Int) ∧ Hid (KF w wr)) (fun kv _ => 2 - (intOf kv).toNat)
 case atStart => exact ⟨1, by omega, by omega, rfl, Kept.refl _ _⟩
 case round =>
  obtain ⟨k, h1, h2, rfl, HK⟩ := hrel
  by_cases hk : k = 1
  ·subst hk
   have hb := box_kept HK.out HB.out id
   have c0 : wr.cell? ⟨g, 0, none⟩ = some (.int .i64 a) := cell_block _ g 0 _ _ _ hb
   have c1 : wr.cell? ⟨g, 1, none⟩ = some (.int .i64 b) := cell_block _ g 1 _ _ _ hb
   clear hb
   go_wp2
   go_quiet (fail)
   go_wp2
   go_roundw
   case rel => exact ⟨2, by omega, by omega, by go_num, kept_drewN HK.out _⟩
   case measure => simp [intOf]
  ·have e : k = 2 := by omega
   subst e
   go_wp2
   go_ret
   exact ⟨rfl, HK.out⟩
theorem run_clear1 (w : World) (g : Nat) (a b : Int) (h : w.heap[g]? = some (.cells #[.int .i64 a, .int .i64 b] 3 (0, 0))) (ty : TypeId) :
  (Builtin.clear_ #[30] ty #[.slice (some ⟨g, 1, none⟩) 1 1]).run Tryz.prog w = .ok (.tuple #[]) (w.setRow g #[.int .i64 a, .int .i64 0]) := by
 have hzc : (Builtin.zeroCells (Value.int .i64 0).cells 1).toList = [Value.int .i64 0] := by simp [Builtin.zeroCells, Value.cells]
 have hst := run_storeCells_at Tryz.prog g 1 3 [Value.int .i64 0] 0 #[.int .i64 a, .int .i64 b] w h (by simp) (fun u hu => by simp at hu; subst hu; rfl)
 simp only [Nat.add_zero] at hst
 simp [Builtin.clear_, run_underlying Tryz.underlying30, Tryz.zeroValue3, hzc, hst]
set_option maxHeartbeats 2000000 in
theorem compact_eq (g : Nat) (a : Int) (w : World) (h : w.heap[g]? = some (.cells #[.int .i64 a, .int .i64 a] 3 (0, 0))) :
  Calls Tryz.prog 76 #[.slice (some ⟨g, 0, none⟩) 2 2] w fun e w' => e = .returned (.slice (some ⟨g, 0, none⟩) 1 2) ∧ w'.heap[g]? = some (.cells #[.int .i64 a, .int .i64 0] 3 (0, 0)) ∧ Kept (fun k => k = g) w w' := by
 have HB := hid_of h
 clear h
 go_enter Tryz.func76, Tryz.ntmps76
 go_wp2
 go_loopw [3] (fun kv wr => kv = .int .i64 1 ∧ wr = w) (fun kv _ => 2 - (intOf kv).toNat)
 case atStart => exact ⟨rfl, rfl⟩
 case round =>
  obtain ⟨rfl, rfl⟩ := hrel
  have hb := HB.out
  have c0 : wr.cell? ⟨g, 0, none⟩ = some (.int .i64 a) := cell_block _ g 0 _ _ _ hb
  have c1 : wr.cell? ⟨g, 1, none⟩ = some (.int .i64 a) := cell_block _ g 1 _ _ _ hb
  clear hb
  go_wp2
  go_quiet (fail)
  go_wp2
  clear c0 c1
  go_loopw [3, 5] (fun k3 kv w2 => k3 = .int .i64 1 ∧ kv = .int .i64 1 ∧ w2 = wr.drewN nq) (fun _ kv _ => 2 - (intOf kv).toNat)
  case atStart => exact ⟨rfl, rfl, rfl⟩
  case round =>
   obtain ⟨rfl, rfl, rfl⟩ := hrel
   have hbd : (wr.drewN nq).heap[g]? = some (.cells #[.int .i64 a, .int .i64 a] 3 (0, 0)) := HB.out
   have hcl := run_clear1 (wr.drewN nq) g a a hbd 0
   have HX := hid_of (setRow_heap (wr.drewN nq) g _ #[.int .i64 a, .int .i64 0] 3 (0, 0) hbd)
   have HKX : Hid (Kept (fun k => k = g) wr ((wr.drewN nq).setRow g #[.int .i64 a, .int .i64 0])) := (kept_drewN (Kept.refl _ _) nq).trans (kept_row _ g _)
   clear hbd
   go_wp2
   go_ret
   exact ⟨rfl, HX.out, HKX.out⟩
theorem own_pair (w : World) (base g : Nat) (a b : Int) (h : w.heap[g]? = some (.cells #[.int .i64 a, .int .i64 b] 3 (0, 0))) (hb : base ≤ g) : OwnN w base (.slice (some ⟨g, 0, none⟩) 2 2) [a, b] :=
 ⟨rfl, .inr ⟨g, 2, _, rfl, hb, h, by simp, by simp [maxLen], rfl, rfl⟩⟩
theorem own_single2 (w : World) (base g : Nat) (a b : Int) (h : w.heap[g]? = some (.cells #[.int .i64 a, .int .i64 b] 3 (0, 0))) (hb : base ≤ g) : OwnN w base (.slice (some ⟨g, 0, none⟩) 1 2) [a] :=
 ⟨rfl, .inr ⟨g, 2, _, rfl, hb, h, by simp, by simp [maxLen], rfl, rfl⟩⟩
theorem own_single (w : World) (base g : Nat) (a : Int) (h : w.heap[g]? = some (.cells #[.int .i64 a] 3 (0, 0))) (hb : base ≤ g) : OwnN w base (.slice (some ⟨g, 0, none⟩) 1 1) [a] :=
 ⟨rfl, .inr ⟨g, 1, _, rfl, hb, h, by simp, by simp [maxLen], rfl, rfl⟩⟩
def WayR (x : IN) (at' : Int) (w : World) (e : Ending) (w' : World) : Prop := ∃ v, e = .returned v ∧ OwnN w' w.heap.size v (wayL x at') ∧ KF w w'
theorem way_cases (x : IN) (at' : Int) : ((x.op = 1 ∨ x.op = 2 ∨ x.op = 18) ∧ wayL x at' = []) ∨ (x.op = 14 ∧ wayL x at' = [x.a]) ∨ ((x.op = 15 ∨ x.op = 16) ∧ ((x.a < at' + 1 ∧ wayL x at' = [x.a, at' + 1]) ∨ (at' + 1 < x.a ∧ wayL x at' = [at' + 1, x.a]) ∨ (x.a = at' + 1 ∧ wayL x at' = [at' + 1]))) ∨ (x.op ≠ 1 ∧ x.op ≠ 2 ∧ x.op ≠ 18 ∧ x.op ≠ 14 ∧ x.op ≠ 15 ∧ x.op ≠ 16 ∧ wayL x at' = [at' + 1]) := by
 unfold wayL
 by_cases h1 : x.op = 1 ∨ x.op = 2 ∨ x.op = 18
 ·exact .inl ⟨h1, if_pos h1⟩
 ·rw [if_neg h1]
  by_cases h2 : x.op = 14
  ·exact .inr (.inl ⟨h2, if_pos h2⟩)
  ·rw [if_neg h2]
   by_cases h3 : x.op = 15 ∨ x.op = 16
   ·rw [if_pos h3]
    refine .inr (.inr (.inl ⟨h3, ?_⟩))
    by_cases h4 : x.a < at' + 1
    ·exact .inl ⟨h4, if_pos h4⟩
    ·rw [if_neg h4]
     by_cases h5 : at' + 1 < x.a
     ·exact .inr (.inl ⟨h5, if_pos h5⟩)
     ·exact .inr (.inr ⟨by omega, if_neg h5⟩)
   ·rw [if_neg h3]
    exact .inr (.inr (.inr ⟨by omega, by omega, by omega, h2, by omega, by omega, rfl⟩))
set_option maxHeartbeats 4000000 in
theorem goes_any (x : IN) (at' : Int) (w : World) (h0 : 0 ≤ at') (h1 : at' < 9223372036854775807) :
  Calls Tryz.prog 48 #[.agg #[.int .i64 x.op, .int .i64 x.a], .int .i64 at'] w (WayR x at' w) := by
 obtain ⟨op, a⟩ := x
 have hk1 : KF w (w.alloc (.cells #[.int .i64 op, .int .i64 a] 64)) := (Kept.refl _ _).alloc _
 have hb1 := heap_alloc_new w (.cells #[.int .i64 op, .int .i64 a] 64)
 have c0 := cell_block _ w.heap.size 0 _ _ _ hb1
 have c1 := cell_block _ w.heap.size 1 _ _ _ hb1
 have hs1 : (w.alloc (.cells #[.int .i64 op, .int .i64 a] 64)).heap.size = w.heap.size + 1 := by simp
 rcases way_cases ⟨op, a⟩ at' with ⟨ho, hw⟩ | ⟨ho, hw⟩ | ⟨ho, hw⟩ | ⟨o1, o2, o3, o4, o5, o6, hw⟩
 ·have HW := hid_of hw
  have HK := hid_of hk1
  simp only at ho
  clear hw hk1 hb1 hs1
  rcases ho with rfl | rfl | rfl
  all_goals
   go_enter Tryz.func48, Tryz.ntmps48
   go_wp2
   go_ret
   exact ⟨_, rfl, by rw [HW.out]; exact World.ownsRow_nil _ _ _ _, HK.out⟩
 ·have HW := hid_of hw
  simp only at ho
  subst ho
  have hkx : KF w ((w.alloc (.cells #[.int .i64 14, .int .i64 a] 64)).alloc (.cells #[.int .i64 a] 3)) := hk1.alloc _
  have hbx := heap_alloc_new (w.alloc (.cells #[.int .i64 14, .int .i64 a] 64)) (.cells #[.int .i64 a] 3)
  rw [hs1] at hbx
  have HX := hid_of hbx
  have HK := hid_of hkx
  clear hw hk1 hb1 hkx hbx hs1
  go_enter Tryz.func48, Tryz.ntmps48
  go_wp2
  go_ret
  exact ⟨_, rfl, by rw [HW.out]; exact own_single _ _ _ a HX.out (by omega), HK.out⟩
 ·simp only at ho hw
  rcases hw with ⟨hlt, hw⟩ | ⟨hlt, hw⟩ | ⟨hlt, hw⟩
  ·have HW := hid_of hw
   have hkx : KF w ((w.alloc (.cells #[.int .i64 op, .int .i64 a] 64)).alloc (.cells #[.int .i64 a, .int .i64 (at' + 1)] 3)) := hk1.alloc _
   have hbx := heap_alloc_new (w.alloc (.cells #[.int .i64 op, .int .i64 a] 64)) (.cells #[.int .i64 a, .int .i64 (at' + 1)] 3)
   rw [hs1] at hbx
   have HC := hid_of (compact_ne (w.heap.size + 1) a (at' + 1) _ hbx (by omega))
   have HX := hid_of hbx
   have HK := hid_of hkx
   clear hw hk1 hb1 hkx hbx hs1
   rcases ho with rfl | rfl
   all_goals
    go_enter Tryz.func48, Tryz.ntmps48
    go_wp2_with fail
    refine HC.out.mono ?_
    rintro e w2 ⟨rfl, hk2⟩
    have HX2 := hid_of (box_kept hk2 HX.out id)
    have HK2 := hid_of (HK.out.trans hk2)
    clear hk2 c0 c1
    go_wp2
    go_ret
    exact ⟨_, rfl, by rw [HW.out]; exact own_pair _ _ _ _ _ HX2.out (by omega), HK2.out⟩
  ·have HW := hid_of hw
   have hkx : KF w ((w.alloc (.cells #[.int .i64 op, .int .i64 a] 64)).alloc (.cells #[.int .i64 (at' + 1), .int .i64 a] 3)) := hk1.alloc _
   have hbx := heap_alloc_new (w.alloc (.cells #[.int .i64 op, .int .i64 a] 64)) (.cells #[.int .i64 (at' + 1), .int .i64 a] 3)
   rw [hs1] at hbx
   have HC := hid_of (compact_ne (w.heap.size + 1) (at' + 1) a _ hbx (by omega))
   have HX := hid_of hbx
   have HK := hid_of hkx
   clear hw hk1 hb1 hkx hbx hs1
   rcases ho with rfl | rfl
   all_goals
    go_enter Tryz.func48, Tryz.ntmps48
    go_wp2_with fail
    refine HC.out.mono ?_
    rintro e w2 ⟨rfl, hk2⟩
    have HX2 := hid_of (box_kept hk2 HX.out id)
    have HK2 := hid_of (HK.out.trans hk2)
    clear hk2 c0 c1
    go_wp2
    go_ret
    exact ⟨_, rfl, by rw [HW.out]; exact own_pair _ _ _ _ _ HX2.out (by omega), HK2.out⟩
  ·have HW := hid_of hw
   have HLT := hid_of hlt
   rw [hlt] at hk1 hb1 hs1 c0 c1
   have hkx : KF w ((w.alloc (.cells #[.int .i64 op, .int .i64 (at' + 1)] 64)).alloc (.cells #[.int .i64 (at' + 1), .int .i64 (at' + 1)] 3)) := hk1.alloc _
   have hbx := heap_alloc_new (w.alloc (.cells #[.int .i64 op, .int .i64 (at' + 1)] 64)) (.cells #[.int .i64 (at' + 1), .int .i64 (at' + 1)] 3)
   rw [hs1] at hbx
   have HC := hid_of (compact_eq (w.heap.size + 1) (at' + 1) _ hbx)
   have HK := hid_of hkx
   have HS : Hid (((w.alloc (.cells #[.int .i64 op, .int .i64 (at' + 1)] 64)).alloc (.cells #[.int .i64 (at' + 1), .int .i64 (at' + 1)] 3)).heap.size = w.heap.size + 2) := by simp [Hid]
   subst hlt
   clear hw hk1 hb1 hkx hbx hs1
   rcases ho with rfl | rfl
   all_goals
    go_enter Tryz.func48, Tryz.ntmps48
    go_wp2_with fail
    refine HC.out.mono ?_
    rintro e w2 ⟨rfl, hb2, hk2⟩
    have HX2 := hid_of hb2
    have HK2 : Hid (KF w w2) := HK.out.step hk2 (fun i hi e => by omega)
    clear hk2 hb2 c0 c1
    go_wp2
    go_ret
    exact ⟨_, rfl, by rw [HW.out]; exact own_single2 _ _ _ _ _ HX2.out (by omega), HK2.out⟩
 ·have HW := hid_of hw
  simp only at o1 o2 o3 o4 o5 o6
  have e1 : (op == 1) = false := by simp [o1]
  have e2 : (op == 2) = false := by simp [o2]
  have e3 : (op == 18) = false := by simp [o3]
  have e4 : (op == 14) = false := by simp [o4]
  have e5 : (op == 15) = false := by simp [o5]
  have e6 : (op == 16) = false := by simp [o6]
  have hkx : KF w ((w.alloc (.cells #[.int .i64 op, .int .i64 a] 64)).alloc (.cells #[.int .i64 (at' + 1)] 3)) := hk1.alloc _
  have hbx := heap_alloc_new (w.alloc (.cells #[.int .i64 op, .int .i64 a] 64)) (.cells #[.int .i64 (at' + 1)] 3)
  rw [hs1] at hbx
  have HX := hid_of hbx
  have HK := hid_of hkx
  clear hw hk1 hb1 hkx hbx hs1
  go_enter Tryz.func48, Tryz.ntmps48
  go_wp2
  go_ret
  exact ⟨_, rfl, by rw [HW.out]; exact own_single _ _ _ _ HX.out (by omega), HK.out⟩
def tkgv (p : PG) (f : FN) (x : IN) : Int × Int :=
 if x.op = 17 then (if 0 ≤ x.a ∧ x.a < (p.fns.length : Int) then (match p.fns[x.a.toNat]? with | some g => (g.a, g.r) | none => (0, 0)) else (0, 0))
 else if x.op = 18 then (f.r, 0)
 else if x.op = 19 then ((rowS sysL x.a).t, (rowS sysL x.a).g)
 else ((rowS insL x.op).t, (rowS insL x.op).g)
theorem size56 : (Tryz.prog.info? 56).map (·.size) = some 4 := by kernel_rfl
def TkR (p : PG) (f : FN) (x : IN) (w : World) (e : Ending) (w' : World) : Prop := e = .returned (.tuple #[.int .i64 (tkgv p f x).1, .int .i64 (tkgv p f x).2]) ∧ KF w w'
set_option maxHeartbeats 4000000 in
theorem takes_any (v : Value) (p : PG) (f : FN) (x : IN) (cao : Option Addr) (cc : Nat) (w : World) (B : Nat) (h : PgIs w B v p) (ho : x.Ok) :
  Calls Tryz.prog 53 #[v, .agg #[.int .i64 f.a, .int .i64 f.l, .int .i64 f.r, .slice cao f.code.length cc], .agg #[.int .i64 x.op, .int .i64 x.a]] w (TkR p f x w) := by
 obtain ⟨dv, fv, rfl, hd, hdl, hf⟩ := h
 obtain ⟨dao, dc, rfl⟩ := hd.shape
 obtain ⟨fao, fc, rfl⟩ := hf.shape
 obtain ⟨op, a⟩ := x
 obtain ⟨nf, hnf⟩ := nmd (p.fns.length)
 obtain ⟨nd, hnd⟩ := nmd (p.data.length)
 obtain ⟨mem, hmem⟩ := nmd (p.mem)
 obtain ⟨nc, hnc⟩ := nmd (f.code.length)
 obtain ⟨fa, hfa⟩ := nmd (f.a)
 obtain ⟨fl, hfl⟩ := nmd (f.l)
 obtain ⟨fr, hfr⟩ := nmd (f.r)
 rw [← hnf, ← hnd, ← hmem, ← hnc, ← hfa, ← hfl, ← hfr]
 obtain ⟨W, hW⟩ := nmd (((w.alloc (.cells #[.int .i64 mem, .slice dao nd dc, .slice fao nf fc] 25)).alloc (.cells #[.int .i64 fa, .int .i64 fl, .int .i64 fr, .slice cao nc cc] 56)).alloc (.cells #[.int .i64 op, .int .i64 a] 64))
 have hkW : KF w W := by rw [hW]; exact (((Kept.refl _ _).alloc _).alloc _).alloc _
 have hb1 : W.heap[w.heap.size]? = some (.cells #[.int .i64 mem, .slice dao nd dc, .slice fao nf fc] 25 (0, 0)) := by
  rw [hW, heap_alloc_old _ _ (by simp; omega), heap_alloc_old _ _ (by simp)]; exact heap_alloc_new w _
 have hb2 : W.heap[w.heap.size + 1]? = some (.cells #[.int .i64 fa, .int .i64 fl, .int .i64 fr, .slice cao nc cc] 56 (0, 0)) := by
  rw [hW, heap_alloc_old _ _ (by simp)]; exact (by simp : (w.alloc (.cells #[.int .i64 mem, .slice dao nd dc, .slice fao nf fc] 25)).heap.size = w.heap.size + 1) ▸ heap_alloc_new _ _
 have hb3 : W.heap[w.heap.size + 2]? = some (.cells #[.int .i64 op, .int .i64 a] 64 (0, 0)) := by
  rw [hW]; exact (by simp : ((w.alloc (.cells #[.int .i64 mem, .slice dao nd dc, .slice fao nf fc] 25)).alloc (.cells #[.int .i64 fa, .int .i64 fl, .int .i64 fr, .slice cao nc cc] 56)).heap.size = w.heap.size + 2) ▸ heap_alloc_new _ _
 have x0 := cell_block _ _ 0 _ _ _ hb3
 have x1 := cell_block _ _ 1 _ _ _ hb3
 have y2 := cell_block _ _ 2 _ _ _ hb2
 have z2 := cell_block _ _ 2 _ _ _ hb1
 have hfW := hf.kept hkW (fun _ _ f => f)
 have HKW := hid_of hkW
 have ho1 := ho.1
 have ho2 := ho.2
 simp only at ho1 ho2
 by_cases h17 : op = 17
 ·subst h17
  by_cases hin : 0 ≤ a ∧ a < (nf : Int)
  ·obtain ⟨k, rfl⟩ : ∃ k : Nat, a = k := ⟨a.toNat, by omega⟩
   have hkn : k < nf := by omega
   rw [← hnf] at hfW
   obtain ⟨g, o, q, hfo, hgB, hq, cv, hrg, hri, hcl⟩ := hfW.at (i := k) (by rw [← hnf]; exact hkn)
   subst hfo
   obtain ⟨qa, hqa⟩ := nmd (q.a)
   obtain ⟨qr, hqr⟩ := nmd (q.r)
   have HT : Hid (tkgv p f ⟨17, k⟩ = (qa, qr)) := by
    unfold Hid tkgv
    rw [if_pos rfl, if_pos (by rw [← hnf]; exact hin)]
    simp only [Int.toNat_natCast, hq, hqa, hqr]
   have hag : amg (k : Int) (nf : Int) = true := (amg_iff _ _).2 hin
   have HA := hid_of (fun W' => among_any (k : Int) (nf : Int) W')
   rw [hag] at HA
   have HI := hid_of hin
   have hlt : (k : Int) < (nf : Int) := hin.2
   have h1 : (q.cells cv).toArray.all (·.oneCell') = true := by
    obtain ⟨ao', c', rfl⟩ := hri.shape
    simp [FN.cells, Value.oneCell']
   have hcs : (q.cells cv).toArray.size = 4 := rfl
   have hc0 : (q.cells cv).toArray[0]? = some (.int .i64 qa) := by rw [hqa]; rfl
   have hc2 : (q.cells cv).toArray[2]? = some (.int .i64 qr) := by rw [hqr]; rfl
   have hl4 : (q.cells cv).length = 4 := rfl
   generalize q.cells cv = cs at *
   clear hb1 hb2 hb3 hfW hkW hd hdl hf hnf hnd hmem hnc hfa hfl hfr ho ho1 ho2 hag hq hri hcl hqa hqr hgB hin
   go_enter Tryz.func53, Tryz.ntmps53
   go_upto_region 1 with fail
   rw [← hW]
   clear hW
   go_wp2_with fail
   refine (HA.out _).mono ?_
   rintro e w1 ⟨rfl, rfl⟩
   obtain ⟨hO, hX, hK⟩ := new_row w1 #[.int .i64 0, .int .i64 0, .int .i64 0, .slice none 0 0] cs.toArray 56
   go_upto_region 6 with (first | refine wpList_load_mid rfl 56 _ rfl g (o + k * 4) rfl cs _ hrg Tryz.underlying56 rfl (by rw [hl4]; exact size56) ?_ | refine wpList_store_row rfl 56 _ _ rfl w1.heap.size cs.toArray rfl rfl 56 _ hO (by rw [hcs]; exact size56) hcs.symm h1 ?_)
   generalize (w1.alloc (.cells #[.int .i64 0, .int .i64 0, .int .i64 0, .slice none 0 0] 56)).setRow w1.heap.size cs.toArray = w2 at *
   have s0 : w2.cell? ⟨w1.heap.size, 0, none⟩ = some (.int .i64 qa) := (cell_block _ _ 0 _ _ _ hX).trans hc0
   have s2 : w2.cell? ⟨w1.heap.size, 2, none⟩ = some (.int .i64 qr) := (cell_block _ _ 2 _ _ _ hX).trans hc2
   have HK2 := hid_of (HKW.out.trans hK)
   clear hO hX hK HKW x0 x1 y2 z2 hrg h1 hcs hc0 hc2 hl4
   go_quiet (fail)
   go_wp2
   go_ret2
   exact ⟨by rw [HT.out]; rfl, kept_drewN HK2.out _⟩
  ·have HT : Hid (tkgv p f ⟨17, a⟩ = (0, 0)) := by
    unfold Hid tkgv
    rw [if_pos rfl, if_neg (by rw [← hnf]; exact hin)]
   have hag : amg a (nf : Int) = false := by
    rcases hb : amg a (nf : Int) with _ | _
    ·rfl
    ·exact absurd ((amg_iff _ _).1 hb) hin
   have HA := hid_of (fun W' => among_any a (nf : Int) W')
   rw [hag] at HA
   clear hb1 hb2 hb3 hfW hkW hd hdl hf hnf hnd hmem hnc hfa hfl hfr ho ho1 ho2 hag hin
   go_enter Tryz.func53, Tryz.ntmps53
   go_upto_region 1 with fail
   rw [← hW]
   clear hW
   go_wp2_with fail
   refine (HA.out _).mono ?_
   rintro e w1 ⟨rfl, rfl⟩
   go_wp2
   go_ret2
   exact ⟨by rw [HT.out]; rfl, HKW.out⟩
 ·have e17 : (op == 17) = false := by simp [h17]
  by_cases h18 : op = 18
  ·subst h18
   have HT : Hid (tkgv p f ⟨18, a⟩ = (fr, 0)) := by unfold Hid tkgv; simp [hfr]
   clear hb1 hb2 hb3 hfW hkW hd hdl hf hnf hnd hmem hnc hfa hfl hfr ho ho1 ho2
   go_enter Tryz.func53, Tryz.ntmps53
   go_upto_region 1 with fail
   rw [← hW]
   clear hW
   go_wp2
   go_ret2
   exact ⟨by rw [HT.out]; rfl, HKW.out⟩
  ·have e18 : (op == 18) = false := by simp [h18]
   by_cases h19 : op = 19
   ·subst h19
    have HT : Hid (tkgv p f ⟨19, a⟩ = ((rowS sysL a).t, (rowS sysL a).g)) := by unfold Hid tkgv; simp
    have HS := hid_of (sysof_any a W ho2.1 ho2.2)
    clear hb1 hb2 hb3 hfW hkW hd hdl hf hnf hnd hmem hnc hfa hfl hfr ho ho1 ho2
    go_enter Tryz.func53, Tryz.ntmps53
    go_upto_region 1 with fail
    rw [← hW]
    clear hW
    go_wp2_with fail
    refine HS.out.mono ?_
    rintro e w1 ⟨rfl, hk1⟩
    have HK1 := hid_of (HKW.out.trans hk1)
    clear hk1 HS HKW x0 x1 y2 z2
    generalize rowS sysL a = s at *
    generalize isRow sysL a = b
    obtain ⟨hO, hX, hK⟩ := new_row w1 #[.string ⟨#[]⟩, .int .i64 0, .int .i64 0, .int .i64 0] s.cells.toArray 134
    go_upto_region 11 with (refine wpList_store_row rfl 134 _ _ rfl w1.heap.size s.cells.toArray rfl rfl 134 _ hO size24 rfl (sh_one s) ?_)
    generalize (w1.alloc (.cells #[.string ⟨#[]⟩, .int .i64 0, .int .i64 0, .int .i64 0] 134)).setRow w1.heap.size s.cells.toArray = w2 at *
    have s2 : w2.cell? ⟨w1.heap.size, 2, none⟩ = some (.int .i64 s.t) := cell_block _ _ 2 _ _ _ hX
    have s3 : w2.cell? ⟨w1.heap.size, 3, none⟩ = some (.int .i64 s.g) := cell_block _ _ 3 _ _ _ hX
    have HK2 := hid_of (HK1.out.trans hK)
    clear hO hX hK HK1
    go_quiet (fail)
    go_wp2
    go_ret2
    exact ⟨by rw [HT.out]; rfl, kept_drewN HK2.out _⟩
   ·have e19 : (op == 19) = false := by simp [h19]
    have HT : Hid (tkgv p f ⟨op, a⟩ = ((rowS insL op).t, (rowS insL op).g)) := by unfold Hid tkgv; simp [h17, h18, h19]
    have HS := hid_of (of_any op W ho1.1 ho1.2)
    clear hb1 hb2 hb3 hfW hkW hd hdl hf hnf hnd hmem hnc hfa hfl hfr ho ho1 ho2
    go_enter Tryz.func53, Tryz.ntmps53
    go_upto_region 1 with fail
    rw [← hW]
    clear hW
    go_wp2_with fail
    refine HS.out.mono ?_
    rintro e w1 ⟨rfl, hk1⟩
    have HK1 := hid_of (HKW.out.trans hk1)
    clear hk1 HS HKW x0 x1 y2 z2
    generalize rowS insL op = s at *
    generalize isRow insL op = b
    obtain ⟨hO, hX, hK⟩ := new_row w1 #[.string ⟨#[]⟩, .int .i64 0, .int .i64 0, .int .i64 0] s.cells.toArray 134
    go_upto_region 13 with (refine wpList_store_row rfl 134 _ _ rfl w1.heap.size s.cells.toArray rfl rfl 134 _ hO size24 rfl (sh_one s) ?_)
    generalize (w1.alloc (.cells #[.string ⟨#[]⟩, .int .i64 0, .int .i64 0, .int .i64 0] 134)).setRow w1.heap.size s.cells.toArray = w2 at *
    have s2 : w2.cell? ⟨w1.heap.size, 2, none⟩ = some (.int .i64 s.t) := cell_block _ _ 2 _ _ _ hX
    have s3 : w2.cell? ⟨w1.heap.size, 3, none⟩ = some (.int .i64 s.g) := cell_block _ _ 3 _ _ _ hX
    have HK2 := hid_of (HK1.out.trans hK)
    clear hO hX hK HK1
    go_quiet (fail)
    go_wp2
    go_ret2
    exact ⟨by rw [HT.out]; rfl, kept_drewN HK2.out _⟩
theorem allocs2 (w : World) (c1 : Array Value) (t1 : TypeId) (c2 : Array Value) (t2 : TypeId) (W : World) (hW : W = (w.alloc (.cells c1 t1)).alloc (.cells c2 t2)) :
  KF w W ∧ W.heap[w.heap.size]? = some (.cells c1 t1 (0, 0)) ∧ W.heap[w.heap.size + 1]? = some (.cells c2 t2 (0, 0)) := by
 subst hW
 refine ⟨((Kept.refl _ _).alloc _).alloc _, ?_, ?_⟩
 ·rw [heap_alloc_old _ _ (by simp)]; exact heap_alloc_new w _
 ·exact (by simp : (w.alloc (.cells c1 t1)).heap.size = w.heap.size + 1) ▸ heap_alloc_new _ _
theorem allocs3 (w : World) (c1 : Array Value) (t1 : TypeId) (c2 : Array Value) (t2 : TypeId) (c3 : Array Value) (t3 : TypeId) (W : World) (hW : W = ((w.alloc (.cells c1 t1)).alloc (.cells c2 t2)).alloc (.cells c3 t3)) :
  KF w W ∧ W.heap[w.heap.size]? = some (.cells c1 t1 (0, 0)) ∧ W.heap[w.heap.size + 1]? = some (.cells c2 t2 (0, 0)) ∧ W.heap[w.heap.size + 2]? = some (.cells c3 t3 (0, 0)) := by
 obtain ⟨W1, hW1⟩ := nmd ((w.alloc (.cells c1 t1)).alloc (.cells c2 t2))
 obtain ⟨h1, h2, h3⟩ := allocs2 w c1 t1 c2 t2 W1 hW1
 have hs : W1.heap.size = w.heap.size + 2 := by rw [hW1]; simp
 rw [← hW1] at hW
 subst hW
 refine ⟨h1.alloc _, ?_, ?_, ?_⟩
 ·rw [heap_alloc_old _ _ (by omega)]; exact h2
 ·rw [heap_alloc_old _ _ (by omega)]; exact h3
 ·exact hs ▸ heap_alloc_new _ _
def strayE (p : PG) (f : FN) (x : IN) : Int :=
 if x.op = 14 ∨ x.op = 15 ∨ x.op = 16 then (if amg x.a f.code.length = true then 0 else 131)
 else if x.op = 7 ∨ x.op = 8 then (if amg x.a f.l = true then 0 else 132)
 else if x.op = 17 then (if amg x.a p.fns.length = true then 0 else 133) else 0
set_option maxHeartbeats 4000000 in
theorem strays_any (v : Value) (p : PG) (f : FN) (x : IN) (cao : Option Addr) (cc : Nat) (w : World) (B : Nat) (h : PgIs w B v p) :
  Calls Tryz.prog 59 #[v, .agg #[.int .i64 f.a, .int .i64 f.l, .int .i64 f.r, .slice cao f.code.length cc], .agg #[.int .i64 x.op, .int .i64 x.a]] w fun e w' => e = .returned (.int .i64 (strayE p f x)) ∧ KF w w' := by
 obtain ⟨dv, fv, rfl, hd, hdl, hf⟩ := h
 obtain ⟨dao, dc, rfl⟩ := hd.shape
 obtain ⟨fao, fc, rfl⟩ := hf.shape
 obtain ⟨op, a⟩ := x
 obtain ⟨nf, hnf⟩ := nmd (p.fns.length)
 obtain ⟨nd, hnd⟩ := nmd (p.data.length)
 obtain ⟨mem, hmem⟩ := nmd (p.mem)
 obtain ⟨nc, hnc⟩ := nmd (f.code.length)
 obtain ⟨fa, hfa⟩ := nmd (f.a)
 obtain ⟨fl, hfl⟩ := nmd (f.l)
 obtain ⟨fr, hfr⟩ := nmd (f.r)
 unfold strayE
 rw [← hnf, ← hnd, ← hmem, ← hnc, ← hfa, ← hfl, ← hfr]
 obtain ⟨W, hW⟩ := nmd (((w.alloc (.cells #[.int .i64 mem, .slice dao nd dc, .slice fao nf fc] 25)).alloc (.cells #[.int .i64 fa, .int .i64 fl, .int .i64 fr, .slice cao nc cc] 56)).alloc (.cells #[.int .i64 op, .int .i64 a] 64))
 obtain ⟨hkW, hb1, hb2, hb3⟩ := allocs3 _ _ _ _ _ _ _ _ hW
 have x0 := cell_block _ _ 0 _ _ _ hb3
 have x1 := cell_block _ _ 1 _ _ _ hb3
 have y1 := cell_block _ _ 1 _ _ _ hb2
 have y3 := cell_block _ _ 3 _ _ _ hb2
 have z2 := cell_block _ _ 2 _ _ _ hb1
 have HKW := hid_of hkW
 have HA := hid_of (fun m W' => among_any a m W')
 clear hb1 hb2 hb3 hkW hd hdl hf hnf hnd hmem hnc hfa hfl hfr
 simp only
 by_cases h1 : op = 14 ∨ op = 15 ∨ op = 16
 ·rw [if_pos h1]
  generalize hag : amg a (nc : Int) = b
  have HA1 := hid_of (fun W' => HA.out (nc : Int) W')
  rw [hag] at HA1
  clear HA hag
  cases b
  all_goals
   rcases h1 with rfl | rfl | rfl
   all_goals
    go_enter Tryz.func59, Tryz.ntmps59
    go_upto_region 1 with fail
    rw [← hW]
    clear hW
    go_wp2_with fail
    refine (HA1.out _).mono ?_
    rintro e w1 ⟨rfl, rfl⟩
    go_wp2
    go_ret
    exact ⟨rfl, HKW.out⟩
 ·rw [if_neg h1]
  have e1 : (op == 14) = false := by simp; omega
  have e2 : (op == 15) = false := by simp; omega
  have e3 : (op == 16) = false := by simp; omega
  clear h1
  by_cases h2 : op = 7 ∨ op = 8
  ·rw [if_pos h2]
   generalize hag : amg a fl = b
   have HA1 := hid_of (fun W' => HA.out fl W')
   rw [hag] at HA1
   clear HA hag
   cases b
   all_goals
    rcases h2 with rfl | rfl
    all_goals
     go_enter Tryz.func59, Tryz.ntmps59
     go_upto_region 1 with fail
     rw [← hW]
     clear hW
     go_wp2_with fail
     refine (HA1.out _).mono ?_
     rintro e w1 ⟨rfl, rfl⟩
     go_wp2
     go_ret
     exact ⟨rfl, HKW.out⟩
  ·rw [if_neg h2]
   have e4 : (op == 7) = false := by simp; omega
   have e5 : (op == 8) = false := by simp; omega
   clear h2
   by_cases h3 : op = 17
   ·rw [if_pos h3]
    subst h3
    generalize hag : amg a (nf : Int) = b
    have HA1 := hid_of (fun W' => HA.out (nf : Int) W')
    rw [hag] at HA1
    clear HA hag
    cases b
    all_goals
     go_enter Tryz.func59, Tryz.ntmps59
     go_upto_region 1 with fail
     rw [← hW]
     clear hW
     go_wp2_with fail
     refine (HA1.out _).mono ?_
     rintro e w1 ⟨rfl, rfl⟩
     go_wp2
     go_ret
     exact ⟨rfl, HKW.out⟩
   ·rw [if_neg h3]
    have e6 : (op == 17) = false := by simp; omega
    clear h3 HA
    go_enter Tryz.func59, Tryz.ntmps59
    go_upto_region 1 with fail
    rw [← hW]
    clear hW
    go_wp2
    go_ret
    exact ⟨rfl, HKW.out⟩
def codeS (p : PG) (f : FN) : List IN → Nat → Option (Int × Nat)
 | [], _ => none
 | x :: xs, j => if strayE p f x = 0 then codeS p f xs (j + 1) else some (strayE p f x, j)
def fnsS (p : PG) : List FN → Nat → Option (Int × Nat × Nat)
 | [], _ => none
 | f :: fs, i => match codeS p f f.code 0 with
  | some (e, j) => some (e, i, j)
  | none => fnsS p fs (i + 1)
def plainD (p : PG) : Int × Nat × Nat :=
 if checkP p ≠ 0 then (checkP p, 0, 0) else if (p.fns.head?.map (fun f => f.a)).getD 0 ≠ 0 ∨ (p.fns.head?.map (fun f => f.r)).getD 0 ≠ 1 then (139, 0, 0) else (fnsS p p.fns 0).getD (0, 0, 0)
theorem codeS_drop (p : PG) (f : FN) (l : List IN) (j : Nat) (x : IN) (h : l[j]? = some x) : codeS p f (l.drop j) j = if strayE p f x = 0 then codeS p f (l.drop (j + 1)) (j + 1) else some (strayE p f x, j) := by
 have hj : j < l.length := (List.getElem?_eq_some_iff.1 h).1
 have e : l[j] = x := (List.getElem?_eq_some_iff.1 h).2
 rw [List.drop_eq_getElem_cons hj, e]
 rfl
theorem fnsS_drop (p : PG) (l : List FN) (i : Nat) (f : FN) (h : l[i]? = some f) : fnsS p (l.drop i) i = match codeS p f f.code 0 with
  | some (e, j) => some (e, i, j)
  | none => fnsS p (l.drop (i + 1)) (i + 1) := by
 have hj : i < l.length := (List.getElem?_eq_some_iff.1 h).1
 have e : l[i] = f := (List.getElem?_eq_some_iff.1 h).2
 rw [List.drop_eq_getElem_cons hj, e]
 rfl
theorem rowI_at {w : World} {ao : Option Addr} {n c : Nat} {ys : List IN} (h : RowI w (.slice ao n c) ys) {i : Nat} (hi : i < ys.length) : ∃ g o x, ao = some ⟨g, o, none⟩ ∧ ys[i]? = some x ∧ w.rangeAt g (o + i * 2) x.cells := by
 rcases h with ⟨e, _⟩ | ⟨g, o, c', e, h⟩
 ·rw [e] at hi; simp at hi
 ·cases e
  exact ⟨g, o, ys[i], rfl, List.getElem?_eq_getElem hi, h i _ (List.getElem?_eq_getElem hi)⟩
def faultV (t : Int × Nat × Nat) : Value := .agg #[.int .i64 t.1, .int .i64 (t.2.1 : Int), .int .i64 (t.2.2 : Int)]
theorem set3 (w : World) (g : Nat) (t : TypeId) (a b c x y z : Value) (h : w.heap[g]? = some (.cells #[a, b, c] t (0, 0))) :
  (((w.setCell ⟨g, 0, none⟩ x).setCell ⟨g, 1, none⟩ y).setCell ⟨g, 2, none⟩ z).heap[g]? = some (.cells #[x, y, z] t (0, 0)) ∧ Kept (fun k => k = g) w (((w.setCell ⟨g, 0, none⟩ x).setCell ⟨g, 1, none⟩ y).setCell ⟨g, 2, none⟩ z) := by
 have h1 := set_block _ _ 0 _ _ _ h x
 have h2 := set_block _ _ 1 _ _ _ h1 y
 have h3 := set_block _ _ 2 _ _ _ h2 z
 exact ⟨h3, ((kept_set w g 0 x).trans (kept_set _ g 1 y)).trans (kept_set _ g 2 z)⟩
theorem size38 : (Tryz.prog.info? 38).map (·.size) = some 3 := by kernel_rfl
set_option maxHeartbeats 8000000 in
theorem plain_any (v : Value) (p : PG) (w : World) (B : Nat) (h : PgIs w B v p) (hB : B ≤ w.heap.size) (ho : p.Ok) :
  Calls Tryz.prog 34 #[v] w fun e w' => e = .returned (faultV (plainD p)) ∧ KF w w' := by
 have hpg := h
 obtain ⟨dv, fv, rfl, hd, hdl, hf⟩ := h
 obtain ⟨dao, dc, rfl⟩ := hd.shape
 obtain ⟨fao, fc, rfl⟩ := hf.shape
 obtain ⟨nf, hnf⟩ := nmd (p.fns.length)
 obtain ⟨nd, hnd⟩ := nmd (p.data.length)
 obtain ⟨mem, hmem⟩ := nmd (p.mem)
 rw [← hnf, ← hnd, ← hmem] at hpg ⊢
 rw [← hnf] at hf
 obtain ⟨gb, hgb⟩ := nmd (w.heap.size)
 obtain ⟨W, hW⟩ := nmd ((w.alloc (.cells #[.int .i64 mem, .slice dao nd dc, .slice fao nf fc] 25)).alloc (.cells #[.int .i64 0, .int .i64 0, .int .i64 0] 38))
 obtain ⟨hkW, hb1, hb2⟩ := allocs2 _ _ _ _ _ _ hW
 rw [← hgb] at hb1 hb2
 have c0 := cell_block _ _ 0 _ _ _ hb1
 have c1 := cell_block _ _ 1 _ _ _ hb1
 have c2 := cell_block _ _ 2 _ _ _ hb1
 have HKW := hid_of hkW
 have HB1 := hid_of hb1
 have HB2 := hid_of hb2
 have HPG := hid_of hpg
 have HF := hid_of hf
 have HO := hid_of ho
 have HBB := hid_of hB
 have HNF := hid_of hnf
 have HGB := hid_of hgb
 have HCK := hid_of (check_p _ p W B (hpg.kept hkW (fun _ _ f => f)) (Nat.le_trans hB hkW.size) ho)
 have hfit : (64 : Int) < (nf : Int) → checkP p ≠ 0 := fun h => by
  rcases bad_cases p with ⟨_, hb⟩ | ⟨hb, _⟩
  ·unfold checkP; rw [if_pos hb]; decide
  ·omega
 have hone : checkP p = 0 → 1 ≤ nf ∧ nf ≤ 64 := fun h => by
  rcases bad_cases p with ⟨_, hb⟩ | ⟨hb, _⟩
  ·unfold checkP at h; rw [if_pos hb] at h; exact absurd h (by decide)
  ·omega
 clear hkW hb1 hb2 hd hdl hf hnf hnd hmem hpg ho hB hfit
 go_enter Tryz.func34, Tryz.ntmps34
 go_upto_region 1 with fail
 rw [← hW, ← hgb]
 clear hW hgb
 go_wp2_with fail
 refine HCK.out.mono ?_
 rintro e w1 ⟨rfl, hk1⟩
 have HK1 := hid_of (HKW.out.trans hk1)
 have HC1 := hid_of (box_kept hk1 HB1.out id)
 have HC2 := hid_of (box_kept hk1 HB2.out id)
 clear hk1 HKW HB1 HB2 HCK c0 c1 c2
 by_cases hck : checkP p = 0
 ·obtain ⟨hn1, hn64⟩ := hone hck
  have HCP := hid_of hck
  rw [hck]
  clear hone hck
  obtain ⟨g, o, f0, hao, hgB, hf0, hfa0⟩ := (HF.out.kept HK1.out (fun _ _ f => f)).at (i := 0) (by rw [← HNF.out]; omega)
  rw [show o + 0 * 4 = o by omega] at hfa0
  obtain ⟨cao0, cc0, x0, x1, x2, x3, hri0, hcl0⟩ := fn_read hfa0
  have HH : Hid (plainD p = if f0.a ≠ 0 ∨ f0.r ≠ 1 then (139, 0, 0) else (fnsS p p.fns 0).getD (0, 0, 0)) := by
   unfold Hid plainD
   rw [if_neg (by rw [HCP.out]; decide)]
   have : p.fns.head? = some f0 := by rw [List.head?_eq_getElem?]; exact hf0
   rw [this]
   rfl
  have hn0 : (0 : Int) < (nf : Int) := by omega
  subst hao
  obtain ⟨qa, hqa⟩ := nmd (f0.a)
  obtain ⟨qr, hqr⟩ := nmd (f0.r)
  rw [← hqa] at x0
  rw [← hqr] at x2
  rw [← hqa, ← hqr] at HH
  have z2 := cell_block _ _ 2 _ _ _ HC1.out
  clear hfa0 hri0 hcl0 x1 x3 hf0 hqa hqr
  by_cases ha : qa = 0
  ·subst ha
   by_cases hr : qr = 1
   ·subst hr
    have HR : Hid (plainD p = (fnsS p p.fns 0).getD (0, 0, 0)) := by unfold Hid; rw [HH.out, if_neg (by decide)]
    clear HH
    go_upto_region 6 with fail
    clear x0 x2
    go_wp2
    clear z2
    have HK0 := hid_of (Kept.refl (fun _ => False) w1)
    go_loopw [33] (fun iv wr => ∃ k : Nat, k ≤ nf ∧ iv = .int .i64 (k : Int) ∧ Hid (KF w1 wr) ∧ Hid (plainD p = (fnsS p (p.fns.drop k) k).getD (0, 0, 0))) (fun iv _ => nf - (intOf iv).toNat)
    case atStart => exact ⟨0, by omega, rfl, HK0, HR⟩
    case round =>
     obtain ⟨k, hk, rfl, HKR, HT⟩ := hrel
     clear HR HK0
     by_cases hlt : k < nf
     ·have hltI : (k : Int) < (nf : Int) := by omega
      obtain ⟨g', o', f, hao', hgB', hfi, hfa⟩ := (HF.out.kept (HK1.out.trans HKR.out) (fun _ _ f => f)).at (i := k) (by rw [← HNF.out]; exact hlt)
      cases hao'
      obtain ⟨cao, cc, x0, x1, x2, x3, hri, hcl⟩ := fn_read hfa
      have hfo := HO.out.fns f (List.mem_of_getElem? hfi)
      obtain ⟨fa, hfa'⟩ := nmd (f.a)
      obtain ⟨fl, hfl'⟩ := nmd (f.l)
      obtain ⟨fr, hfr'⟩ := nmd (f.r)
      obtain ⟨nc, hnc⟩ := nmd (f.code.length)
      have hncb := hfo.len
      have HSX : Hid (∀ (x : IN) (W : World), KF wr W → Calls Tryz.prog 59 #[.agg #[.int .i64 mem, .slice dao nd dc, .slice (some ⟨g, o, none⟩) nf fc], .agg #[.int .i64 fa, .int .i64 fl, .int .i64 fr, .slice cao nc cc], .agg #[.int .i64 x.op, .int .i64 x.a]] W fun e w' => e = .returned (.int .i64 (strayE p f x)) ∧ KF W w') := fun x W hW => by
       rw [hfa', hfl', hfr', hnc]
       exact strays_any _ p f x cao cc W B ((HPG.out.kept (HK1.out.trans HKR.out) (fun _ _ f => f)).kept hW (fun _ _ f => f))
      have HCO := hid_of hfo.code
      rw [← hfa'] at x0
      rw [← hfl'] at x1
      rw [← hfr'] at x2
      rw [← hnc] at x3 hri hncb
      have HNC := hid_of hnc
      have HRI := hid_of hri
      have HFI := hid_of hfi
      have hkB : KF wr (wr.alloc (.cells #[.int .i64 fa, .int .i64 fl, .int .i64 fr, .slice cao nc cc] 56)) := (Kept.refl _ _).alloc _
      have hbB := heap_alloc_new wr (.cells #[.int .i64 fa, .int .i64 fl, .int .i64 fr, .slice cao nc cc] 56)
      have y3 := cell_block _ wr.heap.size 3 _ _ _ hbB
      have HKB := hid_of hkB
      have HBX := hid_of hbB
      have HZ2 := hid_of (box_kept (HKR.out.trans hkB) HC1.out id)
      clear hfa hri hcl hfo hfa' hfl' hfr' hnc hfi hkB hbB
      go_wp2
      generalize wr.alloc (.cells #[.int .i64 fa, .int .i64 fl, .int .i64 fr, .slice cao nc cc] 56) = w2 at *
      clear x0 x1 x2 x3 y3
      generalize hgx : wr.heap.size = gx at *
      have HGX := hid_of hgx
      clear hgx
      have HT2 : Hid (codeS p f f.code 0 = codeS p f (f.code.drop 0) 0) := rfl
      have HK02 := hid_of (Kept.refl (fun _ => False) w2)
      go_loopw [41] (fun jv wi => ∃ j : Nat, j ≤ nc ∧ jv = .int .i64 (j : Int) ∧ Hid (KF w2 wi) ∧ Hid (codeS p f f.code 0 = codeS p f (f.code.drop j) j)) (fun jv _ => nc - (intOf jv).toNat)
      case atStart => exact ⟨0, by omega, rfl, HK02, HT2⟩
      case round =>
       obtain ⟨j, hj, rfl, HKI, HTI⟩ := hrel
       clear HT2 HK02
       by_cases hjl : j < nc
       ·have hjlI : (j : Int) < (nc : Int) := by omega
        obtain ⟨gi, oi, x, hxo, hxi, hxr⟩ := rowI_at (HRI.out.kept (HKB.out.trans HKI.out) (fun _ _ f => f)) (i := j) (by rw [← HNC.out]; exact hjl)
        subst hxo
        obtain ⟨op, hop⟩ := nmd (x.op)
        obtain ⟨a, ha⟩ := nmd (x.a)
        have i0 : wr.cell? ⟨gi, oi + j * 2, none⟩ = some (.int .i64 op) := by rw [hop]; exact hxr 0 _ rfl
        have i1 : wr.cell? ⟨gi, oi + j * 2 + 1, none⟩ = some (.int .i64 a) := by rw [ha]; exact hxr 1 _ rfl
        have hb1 := box_kept HKI.out HZ2.out id
        have hb2 := box_kept HKI.out HBX.out id
        have hkI : KF wr (wr.alloc (.cells #[.int .i64 op, .int .i64 a] 64)) := (Kept.refl _ _).alloc _
        have hbI := heap_alloc_new wr (.cells #[.int .i64 op, .int .i64 a] 64)
        have b1 := box_kept hkI hb1 id
        have b2 := box_kept hkI hb2 id
        have z0 := cell_block _ _ 0 _ _ _ b1
        have z1 := cell_block _ _ 1 _ _ _ b1
        have z2 := cell_block _ _ 2 _ _ _ b1
        have y0 := cell_block _ _ 0 _ _ _ b2
        have y1 := cell_block _ _ 1 _ _ _ b2
        have y2 := cell_block _ _ 2 _ _ _ b2
        have y3 := cell_block _ _ 3 _ _ _ b2
        have q0 := cell_block _ _ 0 _ _ _ hbI
        have q1 := cell_block _ _ 1 _ _ _ hbI
        have HS := hid_of (HSX.out x _ ((HKB.out.trans HKI.out).trans hkI))
        rw [← hop, ← ha] at HS
        have HKJ := hid_of (HKI.out.trans hkI)
        have HTN := hid_of (codeS_drop p f f.code j x hxi)
        clear hb1 hb2 b1 b2 hxr hkI hbI hxi hop ha
        go_wp2_with fail
        generalize wr.alloc (.cells #[.int .i64 op, .int .i64 a] 64) = w3 at *
        refine HS.out.mono ?_
        rintro e w4 ⟨rfl, hk4⟩
        have HK4 := hid_of (HKJ.out.trans hk4)
        clear hk4 HS z0 z1 z2 y0 y1 y2 y3 q0 q1 i0 i1 HKJ
        by_cases hst : strayE p f x = 0
        ·have HTI2 : Hid (codeS p f f.code 0 = codeS p f (f.code.drop (j + 1)) (j + 1)) := by unfold Hid; rw [HTI.out, HTN.out, if_pos hst]
         rw [hst]
         clear hst HTN
         go_wp2
         go_roundw
         case rel => exact ⟨j + 1, by omega, by go_num, HK4, HTI2⟩
         case measure => simp [intOf]; omega
        ·have HR : Hid (plainD p = (strayE p f x, k, j)) := by
          unfold Hid
          rw [HT.out, fnsS_drop p p.fns k f HFI.out, HTI.out, HTN.out, if_neg hst]
          rfl
         generalize strayE p f x = se at *
         have e1 : (se != 0) = true := by simp; exact hst
         have HC2' := hid_of (box_kept ((HKR.out.trans HKB.out).trans HK4.out) HC2.out id)
         have HK1' := hid_of (HK1.out.trans ((HKR.out.trans HKB.out).trans HK4.out))
         clear HC2 HK1 HTN HTI HT
         have HC2 := HC2'
         have HK1 := HK1'
         clear HC2' HK1'
         obtain ⟨hx, hkx⟩ := set3 w4 (gb + 1) 38 _ _ _ (.int .i64 se) (.int .i64 (k : Int)) (.int .i64 (j : Int)) HC2.out
         have HX := hid_of hx
         have HKX := hid_of (HK1.out.step hkx (fun i hi e => by have := HGB.out; omega))
         have d0 := cell_block _ _ 0 _ _ _ HC2.out
         have d1 := cell_block _ _ 1 _ _ _ HC2.out
         have d2 := cell_block _ _ 2 _ _ _ HC2.out
         have f0 := frozen_block _ _ 0 _ _ HC2.out
         have f1 := frozen_block _ _ 1 _ _ HC2.out
         have f2 := frozen_block _ _ 2 _ _ HC2.out
         clear hx hkx
         go_wp2
         refine bodyPost_ret (v := faultV (plainD p)) ?_ rfl ⟨rfl, HKX.out⟩
         rw [HR.out]
         exact results_cell_row (by rfl) _ _ (gb + 1) 38 _ (0, 0) _ (by rfl) HX.out Tryz.underlying38 rfl size38
       ·have e : j = nc := by omega
        subst e
        have HT3 : Hid (plainD p = (fnsS p (p.fns.drop (k + 1)) (k + 1)).getD (0, 0, 0)) := by
         unfold Hid
         rw [HT.out, fnsS_drop p p.fns k f HFI.out, HTI.out, List.drop_of_length_le (by rw [← HNC.out]; omega)]
         rfl
        have HK5 := hid_of ((HKR.out.trans HKB.out).trans HKI.out)
        clear HT HTI
        go_wp2
        go_roundw
        case rel => exact ⟨k + 1, by omega, by go_num, HK5, HT3⟩
        case measure => simp [intOf]; omega
     ·have e : k = nf := by omega
      subst e
      have HR : Hid (plainD p = (0, 0, 0)) := by unfold Hid; rw [HT.out, List.drop_of_length_le (by rw [← HNF.out]; omega)]; rfl
      have HC2' := hid_of (box_kept HKR.out HC2.out id)
      have HK1' := hid_of (HK1.out.trans HKR.out)
      clear HC2 HK1 HT
      have HC2 := HC2'
      have HK1 := HK1'
      clear HC2' HK1'
      obtain ⟨hx, hkx⟩ := set3 wr (gb + 1) 38 _ _ _ (.int .i64 0) (.int .i64 0) (.int .i64 0) HC2.out
      have HX := hid_of hx
      have HKX := hid_of (HK1.out.step hkx (fun i hi e => by have := HGB.out; omega))
      have d0 := cell_block _ _ 0 _ _ _ HC2.out
      have d1 := cell_block _ _ 1 _ _ _ HC2.out
      have d2 := cell_block _ _ 2 _ _ _ HC2.out
      have f0 := frozen_block _ _ 0 _ _ HC2.out
      have f1 := frozen_block _ _ 1 _ _ HC2.out
      have f2 := frozen_block _ _ 2 _ _ HC2.out
      clear hx hkx
      go_wp2
      refine bodyPost_ret (v := faultV (plainD p)) ?_ rfl ⟨rfl, HKX.out⟩
      rw [HR.out]
      exact results_cell_row (by rfl) _ _ (gb + 1) 38 _ (0, 0) _ (by rfl) HX.out Tryz.underlying38 rfl size38
   ·have HR : Hid (plainD p = (139, 0, 0)) := by unfold Hid; rw [HH.out, if_pos (.inr hr)]
    have er : (qr != 1) = true := by simp; exact hr
    clear HH
    obtain ⟨hx, hkx⟩ := set3 w1 (gb + 1) 38 _ _ _ (.int .i64 139) (.int .i64 0) (.int .i64 0) HC2.out
    have HX := hid_of hx
    have HKX := hid_of (HK1.out.step hkx (fun i hi e => by have := HGB.out; omega))
    have d0 := cell_block _ _ 0 _ _ _ HC2.out
    have d1 := cell_block _ _ 1 _ _ _ HC2.out
    have d2 := cell_block _ _ 2 _ _ _ HC2.out
    have f0 := frozen_block _ _ 0 _ _ HC2.out
    have f1 := frozen_block _ _ 1 _ _ HC2.out
    have f2 := frozen_block _ _ 2 _ _ HC2.out
    clear hx hkx
    go_wp2
    refine bodyPost_ret (v := faultV (plainD p)) ?_ rfl ⟨rfl, HKX.out⟩
    rw [HR.out]
    exact results_cell_row (by rfl) _ _ (gb + 1) 38 _ (0, 0) _ (by rfl) HX.out Tryz.underlying38 rfl size38
  ·have HR : Hid (plainD p = (139, 0, 0)) := by unfold Hid; rw [HH.out, if_pos (.inl ha)]
   have er : (qa != 0) = true := by simp; exact ha
   clear HH
   obtain ⟨hx, hkx⟩ := set3 w1 (gb + 1) 38 _ _ _ (.int .i64 139) (.int .i64 0) (.int .i64 0) HC2.out
   have HX := hid_of hx
   have HKX := hid_of (HK1.out.step hkx (fun i hi e => by have := HGB.out; omega))
   have d0 := cell_block _ _ 0 _ _ _ HC2.out
   have d1 := cell_block _ _ 1 _ _ _ HC2.out
   have d2 := cell_block _ _ 2 _ _ _ HC2.out
   have f0 := frozen_block _ _ 0 _ _ HC2.out
   have f1 := frozen_block _ _ 1 _ _ HC2.out
   have f2 := frozen_block _ _ 2 _ _ HC2.out
   clear hx hkx
   go_wp2
   refine bodyPost_ret (v := faultV (plainD p)) ?_ rfl ⟨rfl, HKX.out⟩
   rw [HR.out]
   exact results_cell_row (by rfl) _ _ (gb + 1) 38 _ (0, 0) _ (by rfl) HX.out Tryz.underlying38 rfl size38
 ·have HR : Hid (plainD p = (checkP p, 0, 0)) := by unfold Hid plainD; rw [if_pos hck]
  generalize checkP p = ce at *
  have e1 : (ce != 0) = true := by simp; exact hck
  obtain ⟨hx, hkx⟩ := set3 w1 (gb + 1) 38 _ _ _ (.int .i64 ce) (.int .i64 0) (.int .i64 0) HC2.out
  have HX := hid_of hx
  have HKX := hid_of (HK1.out.step hkx (fun i hi e => by have := HGB.out; omega))
  have d0 := cell_block _ _ 0 _ _ _ HC2.out
  have d1 := cell_block _ _ 1 _ _ _ HC2.out
  have d2 := cell_block _ _ 2 _ _ _ HC2.out
  have f0 := frozen_block _ _ 0 _ _ HC2.out
  have f1 := frozen_block _ _ 1 _ _ HC2.out
  have f2 := frozen_block _ _ 2 _ _ HC2.out
  clear hone hx hkx
  go_wp2
  refine bodyPost_ret (v := faultV (plainD p)) ?_ rfl ⟨rfl, HKX.out⟩
  rw [HR.out]
  exact results_cell_row (by rfl) _ _ (gb + 1) 38 _ (0, 0) _ (by rfl) HX.out Tryz.underlying38 rfl size38
theorem tkp {P : Program} {ops : Array Oper} {Q : Exit → Act → World → Prop} {md : Region.Mode} {S : World → Prop} {oi : Oper} {v : Value} {fuel : Nat} {listed : Array Bool} {a : Act} {w : World} (i : Nat) (hi : ops[i]? = some oi) (hy : ∀ w : World, S w → Sem.run P (execOp a.eval oi) w = Result.ok (Next.value v) w) (h : wpAnyH P md ops Q S fuel (listed.setIfInBounds i true) (a.put oi.dst v) w)
  (hs : Region.noSelect ops = true := by kernel_rfl) (hf : Region.free md ops listed i = true := by kernel_rfl) (hr : (Region.ready md ops listed).contains i = true := by kernel_rfl) (hQ : ∀ c a w, Q (.panic c) (a.put oi.dst v) w → Q (.panic c) a w := by exact fun _ _ _ h => h) (hw : Region.wanted oi (yielded ops a.tmps) = true := by rfl) (hS : S w := by assumption) : wpAnyH P md ops Q S (fuel + 1) listed a w :=
 wpAnyH_take hi hs hf hr hQ (Or.inl ⟨hw, hy⟩) hS h
def pk : Nat → List Bool → List Oper → Option (Oper × List Bool × Nat)
 | k + 1, b :: bs, _ :: os => match pk k bs os with | some (x, l, i) => some (x, b :: l, i + 1) | none => none
 | 0, true :: bs, _ :: os => match pk 0 bs os with | some (x, l, i) => some (x, true :: l, i + 1) | none => none
 | 0, false :: bs, o :: _ => some (o, true :: bs, 0)
 | _, _, _ => none
theorem pk_spec : ∀ (os : List Oper) (k : Nat) (bs : List Bool) (x : Oper) (l : List Bool) (i : Nat), pk k bs os = some (x, l, i) → os[i]? = some x ∧ l = bs.set i true
 | [], k, bs, x, l, i, h => by cases k <;> cases bs <;> simp [pk] at h
 | o :: os, k, [], x, l, i, h => by cases k <;> simp [pk] at h
 | o :: os, k + 1, b :: bs, x, l, i, h => by
  rw [pk] at h
  cases e : pk k bs os with
  | none => rw [e] at h; cases h
  | some y =>
   obtain ⟨y, m, j⟩ := y
   rw [e] at h
   cases h
   obtain ⟨h1, h2⟩ := pk_spec os k bs _ _ _ e
   exact ⟨by simpa using h1, by rw [h2]; rfl⟩
 | o :: os, 0, true :: bs, x, l, i, h => by
  rw [pk] at h
  cases e : pk 0 bs os with
  | none => rw [e] at h; cases h
  | some y =>
   obtain ⟨y, m, j⟩ := y
   rw [e] at h
   cases h
   obtain ⟨h1, h2⟩ := pk_spec os 0 bs _ _ _ e
   exact ⟨by simpa using h1, by rw [h2]; rfl⟩
 | o :: os, 0, false :: bs, x, l, i, h => by
  rw [pk] at h
  cases h
  exact ⟨rfl, rfl⟩
theorem pk_at {ops : Array Oper} {listed : Array Bool} {k i : Nat} {x : Oper} {l : List Bool} (h : pk k listed.toList ops.toList = some (x, l, i)) : ops[i]? = some x ∧ listed.setIfInBounds i true = l.toArray := by
 obtain ⟨h1, h2⟩ := pk_spec _ _ _ _ _ _ h
 refine ⟨by rw [← Array.getElem?_toList]; exact h1, ?_⟩
 apply Array.ext'
 rw [Array.toList_setIfInBounds, h2]
theorem tkn {P : Program} {ops : Array Oper} {Q : Exit → Act → World → Prop} {md : Region.Mode} {S : World → Prop} {oi : Oper} {v : Value} {fuel i : Nat} {listed : Array Bool} {bs : List Bool} {a : Act} {w : World} (k : Nat) (hi : pk k listed.toList ops.toList = some (oi, bs, i)) (hy : ∀ w : World, S w → Sem.run P (execOp a.eval oi) w = Result.ok (Next.value v) w) (h : wpAnyH P md ops Q S fuel bs.toArray (a.put oi.dst v) w)
  (hs : Region.noSelect ops = true := by kernel_rfl) (hf : Region.free md ops listed i = true := by kernel_rfl) (hr : (Region.ready md ops listed).contains i = true := by kernel_rfl) (hQ : ∀ c a w, Q (.panic c) (a.put oi.dst v) w → Q (.panic c) a w := by exact fun _ _ _ h => h) (hw : Region.wanted oi (yielded ops a.tmps) = true := by rfl) (hS : S w := by assumption) : wpAnyH P md ops Q S (fuel + 1) listed a w :=
 wpAnyH_take (pk_at hi).1 hs hf hr hQ (Or.inl ⟨hw, hy⟩) hS (by rw [(pk_at hi).2]; exact h)
theorem tkm {P : Program} {ops : Array Oper} {Q : Exit → Act → World → Prop} {md : Region.Mode} {S : World → Prop} {oi : Oper} {fuel i : Nat} {listed : Array Bool} {bs : List Bool} {a : Act} {w : World} (k : Nat) (hi : pk k listed.toList ops.toList = some (oi, bs, i)) (h : wpAnyH P md ops Q S fuel bs.toArray (a.put oi.dst undef) w)
  (hs : Region.noSelect ops = true := by kernel_rfl) (hf : Region.free md ops listed i = true := by kernel_rfl) (hr : (Region.ready md ops listed).contains i = true := by kernel_rfl) (hQ : ∀ c a w, Q (.panic c) (a.put oi.dst undef) w → Q (.panic c) a w := by exact fun _ _ _ h => h) (hw : Region.wanted oi (yielded ops a.tmps) = false := by rfl) (hS : S w := by assumption) : wpAnyH P md ops Q S (fuel + 1) listed a w :=
 wpAnyH_take (pk_at hi).1 hs hf hr hQ (Or.inr ⟨hw, rfl⟩) hS (by rw [(pk_at hi).2]; exact h)
theorem rdy {P : Program} {md : Region.Mode} {ops : Array Oper} {Q : Exit → Act → World → Prop} {S : World → Prop} {fuel : Nat} {listed : Array Bool} {a : Act} {w : World} (i : Nat) {o : Oper} (ho : ops[i]? = some o) (h : ∀ K' : Act → World → Prop, Shut (∀ a w, S w → (S w → wpAnyH P md ops Q S fuel (listed.setIfInBounds i true) a w) → K' a w) → if Region.wanted o (yielded ops a.tmps) = true then Oper.wp P o a w K' Q else K' (a.put o.dst undef) w) (hr : Region.ready md ops listed = [i] := by kernel_rfl) : wpAnyH P md ops Q S (fuel + 1) listed a w := wpAnyH_ready hr (by simp) (AllReadyH.cons ho h AllReadyH.nil)
theorem tdy : (∀ {α : Type} {xs : List α} {i : Nat} (h : i < xs.toArray.size), xs.toArray[i] = xs[i]'(by simpa using h)) ∧ (∀ {α : Type} (l : List α) (i : Nat) (a : α), l.toArray.setIfInBounds i a = (l.set i a).toArray) ∧ (∀ {α : Type} {a : α} {t : List α} (h : 0 < (a :: t).length), (a :: t)[0] = a) ∧ (∀ {α : Type} {a : α} {t : List α} {i : Nat} (h : i + 1 < (a :: t).length), (a :: t)[i + 1] = t[i]'(by simpa using h)) ∧ (∀ {α : Type} {a b : α} {t : List α}, (a :: t).set 0 b = b :: t) ∧ (∀ {α : Type} {a b : α} {t : List α} {n : Nat}, (a :: t).set (n + 1) b = a :: t.set n b) :=
 ⟨fun _ => rfl, fun _ _ _ => by simp, fun _ => rfl, fun _ => rfl, rfl, rfl⟩
end Go.Proofs.YtcaadgcfceommaaGreat

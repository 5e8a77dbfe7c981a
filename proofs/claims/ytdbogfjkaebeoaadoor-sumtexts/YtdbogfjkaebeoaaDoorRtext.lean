/-
  Text of the reference by contract.
-/
import Derived.Test.YtdbogfjkaebeoaaDoorText
namespace Go.Proofs.YtdbogfjkaebeoaaDoor
open Go.RowKit
set_option linter.unusedVariables false
set_option linter.unusedSimpArgs false

set_option maxRecDepth 100000 in
set_option maxHeartbeats 1000000 in
theorem digit_any (n : Int) (h0 : 0 ≤ n) (h1 : n < 16) (w : World) : Calls Tryd.prog 39 #[.int .i64 n] w fun e w' => e = .returned (.int .u8 (hexd n)) ∧ w' = w := by
  by_cases h : n < 10
  · have e : hexd n = 48 + n := by unfold hexd; rw [if_pos h]
    rw [e]
    go_enter Tryd.func39, Tryd.ntmps39
    go_wp2
    go_ret
    refine ⟨?_, rfl⟩
    go_num
  · have e : hexd n = 87 + n := by unfold hexd; rw [if_neg h]
    rw [e]
    go_enter Tryd.func39, Tryd.ntmps39
    go_wp2
    go_ret
    refine ⟨?_, rfl⟩
    go_num

theorem step_call1 {P : Program} {w : World} {ops : Array Oper} {o : Oper} {a : Act} {K : Act → World → Prop} {Q : Exit → Act → World → Prop} {E : Prop} (hg : o.guard = none) (F : FuncId) (x : Operand) (t : TypeId)
    (ho : o.op = .call { callee := .value (.func F), args := #[x], argTypes := #[t] }) (v : Value) (hx : a.eval x = v) (v' : Value) (hent : (callFunc F #[v]).run P w = .ok (.enter F #[v]) w) (h : Calls P F #[v] w fun e w' => e = .returned v' ∧ w' = w) (hK : K (a.put o.dst v') w) :
    if Region.wanted o (yielded ops a.tmps) = true then Oper.wp P o a w K Q else E := by
  have hw : Region.wanted o (yielded ops a.tmps) = true := by simp [Region.wanted, hg]
  rw [if_pos hw]
  unfold Oper.wp
  have e1 : (Deferred.ofValue (a.eval (Operand.func F)) #[v]).run P w = .ok { target := .fn (.func F) #[], args := #[v] } w := by simp [go_sem]
  simp [execOp, ho, resolve, invoke, hx, Result.andThen]
  rw [e1]
  simp [hent]
  rw [Oper.upon_enter]
  refine h.mono ?_
  rintro e w' ⟨rfl, rfl⟩
  exact hK
theorem ent39 (v : Value) (w : World) : (callFunc 39 #[v]).run Tryd.prog w = .ok (.enter 39 #[v]) w := by
  simp [callFunc, Tryd.func39]
  rw [if_neg (by decide +kernel)]
  rfl

set_option maxRecDepth 100000 in
set_option maxHeartbeats 1000000 in
theorem rtext_any (ds : List Int) (hl : ds.length = 32) (hr : ∀ x ∈ ds, 0 ≤ x ∧ x < 256) (w : World) :
    Calls Tryd.prog 28 #[.agg (ds.map (Value.int .u8)).toArray] w fun e w' => e = .returned (.string (strOf (hexs ds))) ∧ Kept (fun _ => False) w w' := by
  have HR := hid_of hr
  have HDG := hid_of digit_any
  clear hr
  have HB0 := hid_of (alloc_new w (.cells (ds.map (Value.int .u8)).toArray 31) (rfl : w.heap.size = w.heap.size))
  have HO0 : Hid ((w.alloc (Obj.cells (List.map (Value.int IntKind.u8) ds).toArray 31)).ownsRow (w.heap.size + 1) 5 1 (.slice none 0 0) 0 ((hexs (ds.take 0)).map (Value.int .u8))) := World.ownsRow_nil _ _ _ _
  go_enter Tryd.func28, Tryd.ntmps28
  go_wp2_with fail
  obtain ⟨i0, hi, hz0, hz1, hz2⟩ := info_parts info5
  go_loopw [3, 4] (fun v i wr => ∃ k : Nat, k ≤ 32 ∧ i = .int .i64 k ∧ wr.ownsRow (w.heap.size + 1) 5 1 v (2 * k) ((hexs (ds.take k)).map (Value.int .u8)) ∧ wr.heap[w.heap.size]? = some (.cells (ds.map (Value.int .u8)).toArray 31 (0, 0)) ∧ Kept (fun _ => False) w wr ∧ w.heap.size + 1 ≤ wr.heap.size) (fun _ i _ => 32 - (intOf i).toNat)
  case atStart => exact ⟨0, by omega, rfl, HO0.out, HB0.out, (Kept.refl _ w).alloc _, by simp⟩
  case round =>
    clear HO0 HB0
    obtain ⟨k, hk, rfl, hown, hB, hK, hws⟩ := hrel
    by_cases hlt : k < 32
    · have hcr : 0 ≤ ds.getD k 0 ∧ ds.getD k 0 < 256 := HR.out _ (by rw [List.getD, List.getElem?_eq_getElem (by omega)]; simp)
      have hc : wr.cell? ⟨w.heap.size, k, none⟩ = some (.int .u8 (ds.getD k 0)) := by
        rw [cell_block _ _ _ _ _ _ hB]
        simp [List.getD, hlt, hl]
      have hst : hexs (ds.take (k + 1)) = hexs (ds.take k) ++ [hexd (ds.getD k 0 / 16), hexd (ds.getD k 0 % 16)] := by
        rw [List.take_add_one, hexs_append, List.getElem?_eq_getElem (show k < ds.length by omega)]
        simp [hexs, List.getD, List.getElem?_eq_getElem (show k < ds.length by omega)]
      generalize ds.getD k 0 = c at *
      have e0 : IntKind.i64.wrap c = c := by rw [IntKind.wrap_i64]; omega
      have e1 : IntKind.i64.wrap ((IntKind.i64.wrap c).tdiv 16) = c / 16 := by rw [e0, Int.tdiv_eq_ediv_of_nonneg hcr.1, IntKind.wrap_i64]; omega
      have e2 : (IntKind.i64.wrap c).tmod 16 = c % 16 := by rw [e0, Int.tmod_eq_emod_of_nonneg hcr.1]
      have HD1 : Hid (∀ W, Calls Tryd.prog 39 #[.int .i64 (IntKind.i64.wrap ((IntKind.i64.wrap c).tdiv 16))] W fun e w' => e = .returned (.int .u8 (hexd (c / 16))) ∧ w' = W) := fun W => by rw [e1]; exact HDG.out (c / 16) (by omega) (by omega) W
      have HD2 : Hid (∀ W, Calls Tryd.prog 39 #[.int .i64 ((IntKind.i64.wrap c).tmod 16)] W fun e w' => e = .returned (.int .u8 (hexd (c % 16))) ∧ w' = W) := fun W => by rw [e2]; exact HDG.out (c % 16) (by omega) (by omega) W
      clear e0 e1 e2
      have HS := hid_of hst
      have HOW := hid_of hown
      have HK := hid_of hK
      have HB := hid_of hB
      clear hst hown hK hB HDG HR
      have hkI : (k : Int) < 32 := by omega
      go_wp2
      go_region_law (first | (refine step_call1 rfl 39 (.tmp 14) 3 rfl _ rfl _ (ent39 _ _) (HD1.out _) ?_) | (refine step_call1 rfl 39 (.tmp 20) 3 rfl _ rfl _ (ent39 _ _) (HD2.out _) ?_) | (refine step_own_at rfl (.tmp 9) (.tmp 22) 25 rfl (w.heap.size + 1) 5 i0 (.int .u8 0) 1 1 Tryd.underlying25 hi hz0 hz1 hz2 rfl (by decide) _ _ _ rfl (by exact HOW.out.alloc _) ⟨wr.heap.size, 0, none⟩ 2 2 [.int .u8 (hexd (c / 16)), .int .u8 (hexd (c % 16))] rfl rfl (by intro j u hj; exact cell_two_new _ _ _ 5 j u hj) (by intro u hu; simp at hu; rcases hu with rfl | rfl <;> rfl) (by unfold maxLen; omega) (by omega) (by simp; omega) ?_; intro v' w5 hown' hgrow hat))
      all_goals
        have HR5 : Hid (w5.ownsRow (w.heap.size + 1) 5 1 v' (2 * (k + 1)) ((hexs (ds.take (k + 1))).map (Value.int .u8))) := by
          rw [HS.out, List.map_append]
          exact hown'
        have HKa := HK.out.alloc (.cells #[.int .u8 (hexd (c / 16)), .int .u8 (hexd (c % 16))] 5)
        have HK5 : Hid (Kept (fun _ => False) w w5) := by
          refine Kept.grown ?_ hgrow (fun g hg => .inl (by have := (HOW.out.lt g hg).1; omega))
          exact ⟨HKa.os, HKa.tape, HKa.output, HKa.size, HKa.block⟩
        have HW5 : Hid (w.heap.size + 1 ≤ w5.heap.size) := by
          have h5 := hgrow.size
          simp at h5
          show _ ≤ _
          omega
        have HB5 : Hid (w5.heap[w.heap.size]? = some (.cells (ds.map (Value.int .u8)).toArray 31 (0, 0))) := by
          have h5 := hgrow.block w.heap.size (by simp; omega) (fun e => by have := (HOW.out.lt _ e.symm).1; omega)
          exact h5.trans (alloc_old HB.out)
        clear hown' hgrow hat HOW HK HKa HB
        go_wp2
        go_roundw
        case rel => exact ⟨k + 1, by omega, by go_num, HR5.out, HB5.out, HK5.out, HW5.out⟩
        case measure => simp [intOf]; omega
    · obtain rfl : k = 32 := by omega
      rw [List.take_of_length_le (by omega)] at hown
      obtain ⟨g, cap, rfl⟩ : ∃ g cap, u3 = .slice (some ⟨g, 0, none⟩) (2 * 32) cap := by
        rcases hown.2 with ⟨_, h⟩ | ⟨g, cap, _, h, _⟩
        · omega
        · exact ⟨g, cap, h⟩
      have hhl : (hexs ds).length = 2 * 32 := by rw [hexs_length, hl]
      have hld : (loadCells ⟨g, 0, none⟩ (2 * 32)).run Tryd.prog wr = .ok ((hexs ds).map (Value.int .u8)).toArray wr := by
        have := run_loadCells_list (P := Tryd.prog) wr ⟨g, 0, none⟩ ((hexs ds).map (Value.int .u8)) (fun j v hv => hown.cells (g := g) rfl j v hv)
        rw [List.length_map, hhl] at this
        exact this
      have hcv : (convert 25 9 (.slice (some ⟨g, 0, none⟩) (2 * 32) cap)).run Tryd.prog wr = .ok (.string (strOf (hexs ds))) wr := by
        rw [run_convert_bytes_string wr 25 9 5 _ _ cap Tryd.underlying25 Tryd.underlying5 Tryd.underlying9]
        exact run_bytesToString wr ⟨g, 0, none⟩ _ cap (hexs ds) hld
      have HK := hid_of hK
      clear hown hK hld hhl hB
      go_wp2
      go_ret
      exact ⟨rfl, HK.out⟩
end Go.Proofs.YtdbogfjkaebeoaaDoor

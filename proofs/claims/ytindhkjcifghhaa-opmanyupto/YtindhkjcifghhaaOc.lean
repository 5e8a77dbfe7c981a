/-
  Of, Sys, Named, SysNamed by contract.
-/
import Derived.Test.YtindhkjcifghhaaOb
import Derived.Deep.DeepCutAuto
import Derived.Deep.CutBlock
namespace Go.Proofs.Ytindhkjcifghhaa
open Go.RowKit
set_option linter.unusedVariables false
set_option linter.unusedSimpArgs false
set_option maxRecDepth 100000

theorem txt_eq {a b : ByteArray} (h : (a.toList == b.toList) = true) : a = b := by
  have e : a.data.toList = b.data.toList := by
    have := eq_of_beq h
    rwa [ByteArray.toList_eq, ByteArray.toList_eq] at this
  cases a
  cases b
  exact congrArg _ (Array.toList_inj.1 e)
theorem txt_ne {a b : ByteArray} (h : (a.toList == b.toList) = false) : a ≠ b := fun e => by
  subst e
  simp at h
/-- Where the first row of a name lies. -/
def nameIx (L : List Sh) (s : ByteArray) : Nat := L.findIdx (fun x => decide (x.nm = s))
/-- What a table's search tells. -/
def namedV (L : List Sh) (s : ByteArray) : Value := if nameIx L s < L.length then .tuple #[.int .i64 (nameIx L s : Nat), .bool true] else .tuple #[.int .i64 0, .bool false]
theorem named_at {L : List Sh} {s : ByteArray} {k : Nat} (hk : k < L.length) (h0 : ∀ j, j < k → (L.getD j Sh.none).nm ≠ s) (h1 : (L.getD k Sh.none).nm = s) : namedV L s = .tuple #[.int .i64 (k : Nat), .bool true] := by
  have e : nameIx L s = k := by
    unfold nameIx
    rw [List.findIdx_eq hk]
    refine ⟨decide_eq_true ?_, fun j hj => decide_eq_false ?_⟩
    · rw [← h1]
      simp [List.getD, List.getElem?_eq_getElem hk]
    · have := h0 j hj
      simpa [List.getD, List.getElem?_eq_getElem (show j < L.length by omega)] using this
  unfold namedV
  rw [e, if_pos hk]
theorem named_none {L : List Sh} {s : ByteArray} (h0 : ∀ j, j < L.length → (L.getD j Sh.none).nm ≠ s) : namedV L s = .tuple #[.int .i64 0, .bool false] := by
  have e : nameIx L s = L.length := by
    unfold nameIx
    rw [List.findIdx_eq_length]
    intro x hx
    obtain ⟨j, hj, rfl⟩ := List.getElem_of_mem hx
    have := h0 j hj
    exact decide_eq_false (by simpa [List.getD, List.getElem?_eq_getElem hj] using this)
  unfold namedV
  rw [e, if_neg (Nat.lt_irrefl _)]

theorem tab_range {L : List Sh} {w : World} {g t k : Nat} (hg : w.heap[g]? = some (.cells (tcells L).toArray t (0, 0))) (hk : k < L.length) : w.rangeAt g (k * 4) (L.getD k Sh.none).cells := fun j v hv => by
  have hj : j < 4 := by
    have := (List.getElem?_eq_some_iff.1 hv).1
    simpa [Sh.cells] using this
  rw [cell_block _ _ _ _ _ _ hg]
  have := tcells_get L k j hk hj
  rw [hv] at this
  simpa using this

set_option maxHeartbeats 4000000 in
theorem named_any (L : List Sh) (g t : Nat) (s : ByteArray) (w : World) (hg : w.heap[g]? = some (.cells (tcells L).toArray t (0, 0))) (hL : L.length ≤ 46) :
    Calls Try.prog 35 #[.slice (some ⟨g, 0, none⟩) L.length L.length, .string s] w fun e w' => e = .returned (namedV L s) ∧ Kept (fun _ => False) w w' := by
  have HG : Hid (∀ (wr : World) (k : Nat), Kept (fun _ => False) w wr → k < L.length → wr.rangeAt g (k * 4) (L.getD k Sh.none).cells) := fun wr k hk hl =>
    tab_range ((hk.block g (Array.getElem?_eq_some_iff.1 hg).1 (fun f => f)).trans hg) hl
  clear hg
  obtain ⟨N, hn⟩ : ∃ N, L.length = N := ⟨_, rfl⟩
  rw [hn]
  rw [hn] at hL
  have HN2 := hid_of hn
  clear hn
  go_enter Try.func35, Try.ntmps35
  go_wp2
  go_loopw [10] (fun i wr => ∃ k : Nat, k ≤ N ∧ i = .int .i64 (k : Int) ∧ (∀ j, j < k → (L.getD j Sh.none).nm ≠ s) ∧ Kept (fun _ => False) w wr) (fun i _ => N - (intOf i).toNat)
  case atStart => exact ⟨0, by omega, rfl, fun j hj => absurd hj (by omega), Kept.refl _ _⟩
  case round =>
    obtain ⟨k, hk, rfl, hno, hKe⟩ := hrel
    by_cases hlt : k < N
    · have hr := HG.out wr k hKe (by rw [HN2.out]; exact hlt)
      have HAT : Hid ((L.getD k Sh.none).nm = s → namedV L s = .tuple #[.int .i64 (k : Nat), .bool true]) := fun h => named_at (by rw [HN2.out]; exact hlt) hno h
      have HNO := hid_of hno
      generalize hx : L.getD k Sh.none = x at *
      have HX := hid_of hx
      have HK := hid_of (hKe.alloc (.cells x.cells.toArray 24))
      have hki : (k : Int) < (N : Int) := by omega
      clear hno hKe hx
      obtain ⟨nm, o, ta, gi⟩ := x
      go_wp2_with (refine wpList_load_mid rfl 24 _ rfl g (k * 4) rfl [.string nm, .int .i64 o, .int .i64 ta, .int .i64 gi] _ hr Try.underlying24 rfl size24 ?_)
      · have HQ := hid_of (HAT.out (txt_eq (by assumption)))
        go_ret2
        exact ⟨congrArg Ending.returned HQ.out.symm, HK.out⟩
      · rename_i hne
        refine ⟨⟨k + 1, by omega, by go_num, fun j hj => ?_, HK.out⟩, by simp [intOf]; omega⟩
        by_cases e : j = k
        · subst e
          rw [HX.out]
          exact txt_ne hne
        · exact HNO.out j (by omega)
    · obtain rfl : k = N := by omega
      have HK := hid_of hKe
      have HV := hid_of (named_none (L := L) (s := s) (by rw [HN2.out]; exact hno))
      clear hKe hno
      go_wp2
      go_ret2
      exact ⟨congrArg Ending.returned HV.out.symm, HK.out⟩

theorem box_kept {S : Nat → Prop} {w w' : World} {B : Nat} {o : Obj} (h : Kept S w w') (hb : w.heap[B]? = some o) (hs : ¬ S B) : w'.heap[B]? = some o := (h.block B (Array.getElem?_eq_some_iff.1 hb).1 hs).trans hb

set_option maxHeartbeats 4000000 in
theorem of_any (n : Int) (w : World) (hn0 : -9223372036854775808 ≤ n) (hn1 : n < 9223372036854775808) :
    Calls Try.prog 10 #[.int .i64 n] w fun e w' => e = .returned (.tuple #[.agg (rowS insL n).cells.toArray, .bool (isRow insL n)]) ∧ Kept (fun _ => False) w w' := by
  have hB0 := heap_alloc_new w (.cells Sh.none.cells.toArray 24)
  have hK0 : Kept (fun _ => False) w (w.alloc (.cells Sh.none.cells.toArray 24)) := (Kept.refl _ _).alloc _
  go_enter Try.func10, Try.ntmps10
  go_wp2_with fail
  refine (ins_any _).mono ?_
  rintro e w1 ⟨rfl, hk1⟩
  have HB1 := hid_of (box_kept hk1 hB0 (fun f => f))
  have HK1 := hid_of (hK0.trans hk1)
  clear hB0 hk1 hK0
  obtain ⟨hO, hX, hK⟩ := new_row w1 z57 (tcells insL).toArray 57
  go_upto_region 2 with (first | refine wpList_to rfl (some 4) rfl (.pointer (some ⟨w1.heap.size, 0, none⟩)) (w1.alloc (.cells z57 57)) (by kernel_rfl) ?_ | refine wpList_store_row rfl 57 _ _ rfl w1.heap.size (tcells insL).toArray rfl rfl 57 _ hO size57 (by kernel_rfl) one57 ?_)
  clear hO
  generalize (w1.alloc (.cells z57 57)).setRow w1.heap.size (tcells insL).toArray = w2 at *
  have HB2 := hid_of (box_kept hK HB1.out (fun f => f))
  have HK2 := hid_of (HK1.out.trans hK)
  have HR := hid_of (row_any insL w1.heap.size 57 n w2 hX hn0 hn1 (by decide))
  clear hK HB1 HK1
  go_wp2_with fail
  refine HR.out.mono ?_
  rintro e w3 ⟨rfl, hk3⟩
  have HK3 := hid_of (HK2.out.trans hk3)
  have hB3 := box_kept hk3 HB2.out (fun f => f)
  clear hk3 HR HB2 HK2 hX
  obtain ⟨s, hs⟩ : ∃ s, rowS insL n = s := ⟨_, rfl⟩
  obtain ⟨b, hb⟩ : ∃ b, isRow insL n = b := ⟨_, rfl⟩
  rw [hs, hb]
  have HS := hid_of hs
  have HB := hid_of hb
  clear hs hb
  have HX := hid_of (setRow_heap w3 w.heap.size _ s.cells.toArray 24 (0, 0) hB3)
  have HKX := hid_of (HK3.out.step (kept_row w3 w.heap.size s.cells.toArray) (fun i hi e => by omega))
  go_wp2_with (refine wpList_store_row rfl 24 _ _ rfl w.heap.size s.cells.toArray rfl rfl 24 _ hB3 size24 rfl (sh_one s) ?_)
  refine bodyPost_ret (v := .tuple #[.agg s.cells.toArray, .bool b]) ?_ rfl ⟨by rw [HS.out, HB.out], HKX.out⟩
  exact results_row_tmp (by rfl) _ _ ⟨w.heap.size, 0, none⟩ _ _ (by rfl) (by rfl) (run_loadVar_row _ w.heap.size 24 24 _ (0, 0) _ HX.out Try.underlying24 rfl size24)

set_option maxHeartbeats 4000000 in
theorem sysof_any (n : Int) (w : World) (hn0 : -9223372036854775808 ≤ n) (hn1 : n < 9223372036854775808) :
    Calls Try.prog 12 #[.int .i64 n] w fun e w' => e = .returned (.tuple #[.agg (rowS sysL n).cells.toArray, .bool (isRow sysL n)]) ∧ Kept (fun _ => False) w w' := by
  have hB0 := heap_alloc_new w (.cells Sh.none.cells.toArray 24)
  have hK0 : Kept (fun _ => False) w (w.alloc (.cells Sh.none.cells.toArray 24)) := (Kept.refl _ _).alloc _
  go_enter Try.func12, Try.ntmps12
  go_wp2_with fail
  refine (sys_any _).mono ?_
  rintro e w1 ⟨rfl, hk1⟩
  have HB1 := hid_of (box_kept hk1 hB0 (fun f => f))
  have HK1 := hid_of (hK0.trans hk1)
  clear hB0 hk1 hK0
  obtain ⟨hO, hX, hK⟩ := new_row w1 z63 (tcells sysL).toArray 63
  go_upto_region 2 with (first | refine wpList_to rfl (some 4) rfl (.pointer (some ⟨w1.heap.size, 0, none⟩)) (w1.alloc (.cells z63 63)) (by kernel_rfl) ?_ | refine wpList_store_row rfl 63 _ _ rfl w1.heap.size (tcells sysL).toArray rfl rfl 63 _ hO size63 (by kernel_rfl) one63 ?_)
  clear hO
  generalize (w1.alloc (.cells z63 63)).setRow w1.heap.size (tcells sysL).toArray = w2 at *
  have HB2 := hid_of (box_kept hK HB1.out (fun f => f))
  have HK2 := hid_of (HK1.out.trans hK)
  have HR := hid_of (row_any sysL w1.heap.size 63 n w2 hX hn0 hn1 (by decide))
  clear hK HB1 HK1
  go_wp2_with fail
  refine HR.out.mono ?_
  rintro e w3 ⟨rfl, hk3⟩
  have HK3 := hid_of (HK2.out.trans hk3)
  have hB3 := box_kept hk3 HB2.out (fun f => f)
  clear hk3 HR HB2 HK2 hX
  obtain ⟨s, hs⟩ : ∃ s, rowS sysL n = s := ⟨_, rfl⟩
  obtain ⟨b, hb⟩ : ∃ b, isRow sysL n = b := ⟨_, rfl⟩
  rw [hs, hb]
  have HS := hid_of hs
  have HB := hid_of hb
  clear hs hb
  have HX := hid_of (setRow_heap w3 w.heap.size _ s.cells.toArray 24 (0, 0) hB3)
  have HKX := hid_of (HK3.out.step (kept_row w3 w.heap.size s.cells.toArray) (fun i hi e => by omega))
  go_wp2_with (refine wpList_store_row rfl 24 _ _ rfl w.heap.size s.cells.toArray rfl rfl 24 _ hB3 size24 rfl (sh_one s) ?_)
  refine bodyPost_ret (v := .tuple #[.agg s.cells.toArray, .bool b]) ?_ rfl ⟨by rw [HS.out, HB.out], HKX.out⟩
  exact results_row_tmp (by rfl) _ _ ⟨w.heap.size, 0, none⟩ _ _ (by rfl) (by rfl) (run_loadVar_row _ w.heap.size 24 24 _ (0, 0) _ HX.out Try.underlying24 rfl size24)

set_option maxHeartbeats 4000000 in
theorem byname_any (s : ByteArray) (w : World) :
    Calls Try.prog 15 #[.string s] w fun e w' => e = .returned (namedV insL s) ∧ Kept (fun _ => False) w w' := by
  go_enter Try.func15, Try.ntmps15
  go_wp2_with fail
  refine (ins_any _).mono ?_
  rintro e w1 ⟨rfl, hk1⟩
  have HK1 := hid_of hk1
  clear hk1
  obtain ⟨hO, hX, hK⟩ := new_row w1 z57 (tcells insL).toArray 57
  go_upto_region 2 with (first | refine wpList_to rfl (some 4) rfl (.pointer (some ⟨w1.heap.size, 0, none⟩)) (w1.alloc (.cells z57 57)) (by kernel_rfl) ?_ | refine wpList_store_row rfl 57 _ _ rfl w1.heap.size (tcells insL).toArray rfl rfl 57 _ hO size57 (by kernel_rfl) one57 ?_)
  clear hO
  generalize (w1.alloc (.cells z57 57)).setRow w1.heap.size (tcells insL).toArray = w2 at *
  have HK2 := hid_of (HK1.out.trans hK)
  have HR := hid_of (named_any insL w1.heap.size 57 s w2 hX (by decide))
  clear hK HK1
  go_wp2_with fail
  refine HR.out.mono ?_
  rintro e w3 ⟨rfl, hk3⟩
  have HK3 := hid_of (HK2.out.trans hk3)
  clear hk3 HR HK2 hX
  by_cases h : nameIx insL s < insL.length
  · have HV := hid_of (show namedV insL s = _ from if_pos h)
    rw [HV.out]
    generalize nameIx insL s = k at *
    clear h
    go_wp2
    go_ret2
    exact ⟨congrArg Ending.returned HV.out.symm, HK3.out⟩
  · have HV := hid_of (show namedV insL s = _ from if_neg h)
    rw [HV.out]
    clear h
    go_wp2
    go_ret2
    exact ⟨congrArg Ending.returned HV.out.symm, HK3.out⟩

set_option maxHeartbeats 4000000 in
theorem sysname_any (s : ByteArray) (w : World) :
    Calls Try.prog 16 #[.string s] w fun e w' => e = .returned (namedV sysL s) ∧ Kept (fun _ => False) w w' := by
  go_enter Try.func16, Try.ntmps16
  go_wp2_with fail
  refine (sys_any _).mono ?_
  rintro e w1 ⟨rfl, hk1⟩
  have HK1 := hid_of hk1
  clear hk1
  obtain ⟨hO, hX, hK⟩ := new_row w1 z63 (tcells sysL).toArray 63
  go_upto_region 2 with (first | refine wpList_to rfl (some 4) rfl (.pointer (some ⟨w1.heap.size, 0, none⟩)) (w1.alloc (.cells z63 63)) (by kernel_rfl) ?_ | refine wpList_store_row rfl 63 _ _ rfl w1.heap.size (tcells sysL).toArray rfl rfl 63 _ hO size63 (by kernel_rfl) one63 ?_)
  clear hO
  generalize (w1.alloc (.cells z63 63)).setRow w1.heap.size (tcells sysL).toArray = w2 at *
  have HK2 := hid_of (HK1.out.trans hK)
  have HR := hid_of (named_any sysL w1.heap.size 63 s w2 hX (by decide))
  clear hK HK1
  go_wp2_with fail
  refine HR.out.mono ?_
  rintro e w3 ⟨rfl, hk3⟩
  have HK3 := hid_of (HK2.out.trans hk3)
  clear hk3 HR HK2 hX
  by_cases h : nameIx sysL s < sysL.length
  · have HV := hid_of (show namedV sysL s = _ from if_pos h)
    rw [HV.out]
    generalize nameIx sysL s = k at *
    clear h
    go_wp2
    go_ret2
    exact ⟨congrArg Ending.returned HV.out.symm, HK3.out⟩
  · have HV := hid_of (show namedV sysL s = _ from if_neg h)
    rw [HV.out]
    clear h
    go_wp2
    go_ret2
    exact ⟨congrArg Ending.returned HV.out.symm, HK3.out⟩

end Go.Proofs.Ytindhkjcifghhaa

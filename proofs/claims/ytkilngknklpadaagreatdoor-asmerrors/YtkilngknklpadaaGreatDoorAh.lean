/-
  An instruction by its name; a line with one instruction.
-/
import Derived.Test.YtkilngknklpadaaGreatDoorAg
namespace Go.Proofs.YtkilngknklpadaaGreatDoor
open Go.RowKit
set_option linter.unusedVariables false
set_option linter.unusedSimpArgs false
set_option maxRecDepth 100000

set_option maxHeartbeats 4000000 in
theorem named_any (L : List Sh) (g t : Nat) (s : ByteArray) (w : World) (hg : w.heap[g]? = some (.cells (tcells L).toArray t (0, 0))) (hL : L.length ≤ 46) :
    Calls Tryz.prog 119 #[.slice (some ⟨g, 0, none⟩) L.length L.length, .string s] w fun e w' => e = .returned (namedV L s) ∧ Kept (fun _ => False) w w' := by
  have HG : Hid (∀ (wr : World) (k : Nat), Kept (fun _ => False) w wr → k < L.length → wr.rangeAt g (k * 4) (L.getD k Sh.none).cells) := fun wr k hk hl =>
    tab_range ((hk.block g (Array.getElem?_eq_some_iff.1 hg).1 (fun f => f)).trans hg) hl
  clear hg
  obtain ⟨N, hn⟩ : ∃ N, L.length = N := ⟨_, rfl⟩
  rw [hn]
  rw [hn] at hL
  have HN2 := hid_of hn
  clear hn
  go_enter Tryz.func119, Tryz.ntmps119
  go_wp2
  go_loopw [10] (fun i wr => ∃ k : Nat, k ≤ N ∧ i = .int .i64 (k : Int) ∧ (∀ j, j < k → (L.getD j Sh.none).nm ≠ s) ∧ Kept (fun _ => False) w wr) (fun i _ => N - (intOf i).toNat)
  case atStart => exact ⟨0, by omega, rfl, fun j hj => absurd hj (by omega), Kept.refl _ _⟩
  case round =>
    obtain ⟨k, hk, rfl, hno, hKe⟩ := hrel
    by_cases hlt : k < N
    · have hr := HG.out wr k hKe (by rw [HN2.out]; exact hlt)
      have HAT : Hid ((L.getD k Sh.none).nm = s → namedV L s = .tuple #[.int .i64 (k : Nat), .bool true]) := fun h => named_at (by rw [HN2.out]; exact hlt) hno h
      have HNO := hid_of hno
      generalize hx : L.getD k Sh.none = x at *
      have HX := hid_of hx
      have HK := hid_of (hKe.alloc (.cells x.cells.toArray 134))
      have hki : (k : Int) < (N : Int) := by omega
      clear hno hKe hx
      obtain ⟨nm, o, ta, gi⟩ := x
      go_wp2_with (refine wpList_load_mid rfl 134 _ rfl g (k * 4) rfl [.string nm, .int .i64 o, .int .i64 ta, .int .i64 gi] _ hr Tryz.underlying134 rfl size24 ?_)
      · have HQ := hid_of (HAT.out (txt_eq (by assumption)))
        go_ret2
        exact ⟨congrArg Ending.returned HQ.out.symm, HK.out⟩
      · rename_i hne
        refine ⟨⟨k + 1, by omega, by go_num, fun j hj => ?_, HK.out⟩, by simp [intOf]; omega⟩
        by_cases e : j = k
        · subst e
          rw [HX.out]
          exact txt_ne hne
        · exact HNO.out j (by omega)
    · obtain rfl : k = N := by omega
      have HK := hid_of hKe
      have HV := hid_of (named_none (L := L) (s := s) (by rw [HN2.out]; exact hno))
      clear hKe hno
      go_wp2
      go_ret2
      exact ⟨congrArg Ending.returned HV.out.symm, HK.out⟩

set_option maxHeartbeats 4000000 in
theorem byname_any (s : ByteArray) (w : World) :
    Calls Tryz.prog 90 #[.string s] w fun e w' => e = .returned (namedV insL s) ∧ Kept (fun _ => False) w w' := by
  go_enter Tryz.func90, Tryz.ntmps90
  go_wp2_with fail
  refine (ins_any _).mono ?_
  rintro e w1 ⟨rfl, hk1⟩
  have HK1 := hid_of hk1
  clear hk1
  obtain ⟨hO, hX, hK⟩ := new_row w1 z57 (tcells insL).toArray 161
  go_upto_region 2 with (first | refine wpList_to rfl (some 4) rfl (.pointer (some ⟨w1.heap.size, 0, none⟩)) (w1.alloc (.cells z57 161)) (by kernel_rfl) ?_ | refine wpList_store_row rfl 161 _ _ rfl w1.heap.size (tcells insL).toArray rfl rfl 161 _ hO size57 (by kernel_rfl) one57 ?_)
  clear hO
  generalize (w1.alloc (.cells z57 161)).setRow w1.heap.size (tcells insL).toArray = w2 at *
  have HK2 := hid_of (HK1.out.trans hK)
  have HR := hid_of (named_any insL w1.heap.size 161 s w2 hX (by decide))
  clear hK HK1
  go_wp2_with fail
  refine HR.out.mono ?_
  rintro e w3 ⟨rfl, hk3⟩
  have HK3 := hid_of (HK2.out.trans hk3)
  clear hk3 HR HK2 hX
  by_cases h : nameIx insL s < insL.length
  · have HV := hid_of (show namedV insL s = _ from if_pos h)
    rw [HV.out]
    generalize nameIx insL s = k at *
    clear h
    go_wp2
    go_ret2
    exact ⟨congrArg Ending.returned HV.out.symm, HK3.out⟩
  · have HV := hid_of (show namedV insL s = _ from if_neg h)
    rw [HV.out]
    clear h
    go_wp2
    go_ret2
    exact ⟨congrArg Ending.returned HV.out.symm, HK3.out⟩

def retB : ByteArray := ⟨#[114, 101, 116]⟩
theorem ret_named : ∃ k : Nat, namedV insL retB = .tuple #[.int .i64 (k : Int), .bool true] ∧ (k : Int) = 18 := ⟨18, by kernel_rfl, rfl⟩
theorem results_rowtt {P : Program} {fn : Func} {p u r : Tmp} {ty : TypeId} (h : fn.results = #[.cell p ty, .tmp u, .tmp r]) (tmps : Array Value) (w : World) (g : Nat) (t : TypeId) (cs : Array Value) (fr : Nat × Nat) (d : TypeDesc) (x y : Value)
    (hp : tmps.getD p undef = .pointer (some ⟨g, 0, none⟩)) (hx : tmps.getD u undef = x) (hy : tmps.getD r undef = y) (hg : w.heap[g]? = some (.cells cs t fr)) (hu : P.underlying ty = some d) (hd : (match d with | .struct _ | .array _ _ => true | _ => false) = true) (hi : (P.info? ty).map (·.size) = some cs.size) :
    (results fn tmps).run P w = .ok (.tuple #[.agg cs, x, y]) w := by
  have hp' : tmps[p]?.getD undef = .pointer (some ⟨g, 0, none⟩) := by simpa using hp
  have hx' : tmps[u]?.getD undef = x := by simpa using hx
  have hy' : tmps[r]?.getD undef = y := by simpa using hy
  simp [results, h, hp', hx', hy', asAddr, run_loadVar_row w g t ty cs fr d hg hu hd hi]
theorem size51' : (Tryz.prog.info? 51).map (·.size) = some 2 := by kernel_rfl
theorem size134' : (Tryz.prog.info? 134).map (·.size) = some 4 := by kernel_rfl
theorem look2 {w : World} {g : Nat} {t : TypeId} {a b : Value} (h : w.heap[g]? = some (.cells #[a, b] t (0, 0))) : w.cell? ⟨g, 0, none⟩ = some a ∧ w.cell? ⟨g, 1, none⟩ = some b ∧ w.frozen? ⟨g, 0, none⟩ = false ∧ w.frozen? ⟨g, 1, none⟩ = false :=
  ⟨cell_block _ _ 0 _ _ _ h, cell_block _ _ 1 _ _ _ h, frozen_block _ _ 0 _ _ h, frozen_block _ _ 1 _ _ h⟩
theorem ret_row : ∃ nm t g, (rowS insL 18).cells.toArray = #[.string nm, .int .i64 0, .int .i64 t, .int .i64 g] := ⟨(rowS insL 18).nm, (rowS insL 18).t, (rowS insL 18).g, by kernel_rfl⟩
theorem ret_named' : namedV insL retB = .tuple #[.int .i64 18, .bool true] := by kernel_rfl
attribute [irreducible] retB
set_option maxHeartbeats 8000000 in
theorem instr_ret (g o c : Nat) (n0 : Int) (w : World) (hP : PsAt w g o [⟨0, retB, n0⟩]) (hc : 1 ≤ c) :
    Calls Tryz.prog 56 #[.slice (some ⟨g, o, none⟩) 1 c] w fun e w' => e = .returned (.tuple #[.agg #[.int .i64 18, .int .i64 0], .string ⟨#[]⟩, .bool true]) ∧ Kept (fun _ => False) w w' := by
  have hka : Kept (fun _ => False) w (w.alloc (.cells #[.int .i64 0, .int .i64 0] 51)) := (Kept.refl _ _).alloc _
  have HB := hid_of (heap_alloc_new w (.cells #[.int .i64 0, .int .i64 0] 51))
  have HP := hid_of (hP.kept hka (fun f => f))
  have HK := hid_of hka
  have hcI : (1 : Int) ≤ (c : Int) := by omega
  clear hka hP
  go_enter Tryz.func56, Tryz.ntmps56
  go_upto_region 1 with fail
  generalize w.alloc (.cells #[.int .i64 0, .int .i64 0] 51) = w1 at *
  obtain ⟨x, hx⟩ : ∃ x, x = w.heap.size := ⟨_, rfl⟩
  rw [← hx] at HB ⊢
  have HXW : Hid (w.heap.size ≤ x) := by rw [hx]; exact Nat.le_refl _
  clear hx
  have p0 : w1.cell? ⟨g, o, none⟩ = some (.int .i64 0) := HP.out 0 _ rfl 0 _ rfl
  have p1 : w1.cell? ⟨g, o + 1, none⟩ = some (.string retB) := HP.out 0 _ rfl 1 _ rfl
  have HN := hid_of (byname_any retB w1)
  rw [ret_named'] at HN
  go_wp2_with fail
  refine HN.out.mono ?_
  rintro e w2 ⟨rfl, hk2⟩
  have HK2 := hid_of (HK.out.trans hk2)
  have hb2 := box_kept hk2 HB.out (fun f => f)
  have HB3 := hid_of (set_block _ _ 0 _ _ _ hb2 (.int .i64 18))
  have HK3 := hid_of (HK2.out.step (kept_set w2 x 0 (.int .i64 18)) (fun i hi e => by have := HXW.out; omega))
  obtain ⟨b0, b1, bf0, bf1⟩ := look2 hb2
  clear hb2 hk2 HN HP HB HK HK2 p0 p1
  go_upto_region 6 with fail
  clear b0 b1 bf0 bf1
  generalize w2.setCell ⟨x, 0, none⟩ (.int .i64 18) = w3 at *
  have HB3' : Hid (w3.heap[x]? = some (.cells #[.int .i64 18, .int .i64 0] 51 (0, 0))) := HB3.out
  clear HB3
  obtain ⟨b0, b1, bf0, bf1⟩ := look2 HB3'.out
  have HO := hid_of (of_any 18 w3 (by decide) (by decide))
  obtain ⟨nm, tt, gg, hrow⟩ := ret_row
  rw [hrow, show isRow insL 18 = true by kernel_rfl] at HO
  clear hrow
  go_wp2_with fail
  refine HO.out.mono ?_
  rintro e w4 ⟨rfl, hk4⟩
  have hka : Kept (fun _ => False) w4 (w4.alloc (.cells #[.string nm, .int .i64 0, .int .i64 tt, .int .i64 gg] 134)) := (Kept.refl _ _).alloc _
  have HBA := hid_of (heap_alloc_new w4 (.cells #[.string nm, .int .i64 0, .int .i64 tt, .int .i64 gg] 134))
  have HB5 := hid_of (box_kept (hk4.trans hka) HB3'.out (fun f => f))
  have HK5 := hid_of (HK3.out.trans (hk4.trans hka))
  clear hka hk4 HO HB3' HK3 b0 b1 bf0 bf1
  go_upto_region 7 with fail
  generalize w4.alloc (.cells #[.string nm, .int .i64 0, .int .i64 tt, .int .i64 gg] 134) = w5 at *
  generalize w4.heap.size = gs at *
  obtain ⟨b0, b1, bf0, bf1⟩ := look2 HB5.out
  have s1 := cell_block _ _ 1 _ _ _ HBA.out
  have hb6 := set_block _ _ 0 _ _ _ HB5.out (.int .i64 18)
  have hb7 := set_block _ _ 1 _ _ _ hb6 (.int .i64 0)
  have HB7 := hid_of hb7
  have HK7 := hid_of (HK5.out.step ((kept_set w5 x 0 (.int .i64 18)).trans (kept_set _ x 1 (.int .i64 0))) (fun i hi e => by have := HXW.out; omega))
  obtain ⟨d0, d1, df0, df1⟩ := look2 hb6
  clear hb6 hb7 HBA
  go_wp2
  all_goals
    refine bodyPost_ret (v := .tuple #[.agg #[.int .i64 18, .int .i64 0], .string ⟨#[]⟩, .bool true]) ?_ rfl ⟨rfl, HK7.out⟩
    exact results_rowtt (by rfl) _ _ x 51 _ (0, 0) _ _ _ (by rfl) (by rfl) (by rfl) HB7.out Tryz.underlying51 rfl size51'
set_option maxHeartbeats 4000000 in
theorem label_none (v : Value) (w : World) : Calls Tryz.prog 58 #[v, .slice none 0 0] w fun e w' => e = .returned (.bool true) ∧ w' = w := by
  go_enter Tryz.func58, Tryz.ntmps58
  go_wp2_with fail
  go_loopw [9] (fun iv wr => iv = .int .i64 0 ∧ wr = w) (fun _ _ => 0)
  case atStart => exact ⟨rfl, rfl⟩
  case round =>
    obtain ⟨rfl, hw⟩ := hrel
    have hw := hw.symm
    subst hw
    go_wp2
    go_ret
    exact ⟨rfl, rfl⟩
set_option maxHeartbeats 4000000 in
theorem last_one (r : Nat) (a0 a1 a3 a4 a5 a6 : Value) (fa : Option Addr) (fc : Nat) (w : World) (hb : w.heap[r]? = some (.cells #[a0, a1, .slice fa 1 fc, a3, a4, a5, a6] 61 (0, 0))) : Calls Tryz.prog 94 #[.pointer (some ⟨r, 0, none⟩)] w fun e w' => e = .returned (.int .i64 0) ∧ w' = w := by
  have c2 := cell_block _ _ 2 _ _ _ hb
  clear hb
  go_enter Tryz.func94, Tryz.ntmps94
  go_wp2
  go_ret
  exact ⟨rfl, rfl⟩
set_option maxHeartbeats 4000000 in
theorem begun_one (r : Nat) (a0 a1 a3 a4 a5 a6 : Value) (fa : Option Addr) (fc : Nat) (w : World) (hb : w.heap[r]? = some (.cells #[a0, a1, .slice fa 1 fc, a3, a4, a5, a6] 61 (0, 0))) : Calls Tryz.prog 55 #[.pointer (some ⟨r, 0, none⟩)] w fun e w' => e = .returned (.bool true) ∧ w' = w := by
  have c2 := cell_block _ _ 2 _ _ _ hb
  clear hb
  go_enter Tryz.func55, Tryz.ntmps55
  go_wp2
  go_ret
  exact ⟨rfl, rfl⟩
end Go.Proofs.YtkilngknklpadaaGreatDoor

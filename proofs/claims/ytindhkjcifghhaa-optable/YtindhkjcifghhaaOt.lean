/-
  OpTable.
-/
import Derived.Test.YtindhkjcifghhaaRe
import Derived.Test.YtindhkjcifghhaaPe
namespace Go.Proofs.Ytindhkjcifghhaa
open Go.RowKit
set_option linter.unusedVariables false
set_option linter.unusedSimpArgs false
set_option maxRecDepth 100000

set_option maxHeartbeats 4000000 in
theorem shape_same (nm : ByteArray) (o ta gi : Int) (w : World) : Calls Try.prog 14 #[.agg #[.string nm, .int .i64 o, .int .i64 ta, .int .i64 gi], .agg #[.string nm, .int .i64 o, .int .i64 ta, .int .i64 gi]] w fun e w' => e = .returned (.bool true) ∧ Kept (fun _ => False) w w' := by
  have HK := hid_of (((Kept.refl (fun _ => False) w).alloc (.cells #[.string nm, .int .i64 o, .int .i64 ta, .int .i64 gi] 24)).alloc (.cells #[.string nm, .int .i64 o, .int .i64 ta, .int .i64 gi] 27))
  have hs : (nm.toList == nm.toList) = true := by simp
  go_enter Try.func14, Try.ntmps14
  go_wp2
  go_ret
  exact ⟨rfl, HK.out⟩
theorem namedV_form (L : List Sh) (s : ByteArray) : ∃ (a : Int) (b : Bool), namedV L s = .tuple #[.int .i64 a, .bool b] := by
  unfold namedV
  split
  · exact ⟨_, _, rfl⟩
  · exact ⟨_, _, rfl⟩

set_option maxHeartbeats 40000000 in
theorem table_walk (n : Int) (name : ByteArray) (w : World) (hn0 : -9223372036854775808 ≤ n) (hn1 : n < 9223372036854775808) :
    Calls Try.prog 3 #[.int .i64 n, .string name] w fun e w' => e = .returned (.bool true) ∧ Kept (fun _ => False) w w' := by
  go_enter Try.func3, Try.ntmps3
  go_wp2_with fail
  refine (known_any w).mono ?_
  rintro e w0 ⟨rfl, hk0⟩
  have HK := hid_of hk0
  clear hk0
  go_wp2
  go_loopw [5] (fun iv wr => ∃ k : Nat, k ≤ 51 ∧ iv = .int .i64 ((k : Int) - 2) ∧ Kept (fun _ => False) w wr) (fun iv _ => 51 - (intOf iv + 2).toNat)
  case atStart => exact ⟨0, by omega, rfl, HK.out⟩
  case round =>
    obtain ⟨k, hk, rfl, hKe⟩ := hrel
    clear HK
    by_cases hlt : k < 51
    · have hki : (k : Int) - 2 < 49 := by omega
      have HKp0 := hid_of hKe
      have hi0 : -9223372036854775808 ≤ (k : Int) - 2 := by omega
      have hi1 : (k : Int) - 2 < 9223372036854775808 := by omega
      have HKI : Hid ((k : Int) - 2 = (k : Int) - 2) := rfl
      clear hKe
      rcases (show (2 ≤ k ∧ k < 7) ∨ (7 ≤ k ∧ k < 48) ∨ (k < 2 ∨ 48 ≤ k) by omega) with hcase | hcase | hcase
      · obtain ⟨m, rfl⟩ : ∃ m, k = m + 2 := ⟨k - 2, by omega⟩
        have him : ((m + 2 : Nat) : Int) - 2 = (m : Int) := by omega
        rw [him] at hki hi0 hi1 ⊢
        have HQ := hid_of (row_at (L := insL) (show m < insL.length from by show m < 46; omega)).2
        have hs' := (row_at (L := insL) (show m < insL.length from by show m < 46; omega)).1
        have HNM := hid_of (ins_named m (by omega))
        have HQ2 := hid_of (row_at (L := sysL) (show m < sysL.length from by show m < 5; omega)).2
        have hc' := (row_at (L := sysL) (show m < sysL.length from by show m < 5; omega)).1
        have HNM2 := hid_of (sys_named m (by omega))
        clear hcase
        generalize insL.getD m Sh.none = xs at *
        generalize sysL.getD m Sh.none = xc at *
        obtain ⟨nm, o, ta, gi⟩ := xs
        obtain ⟨nm2, o2, ta2, gi2⟩ := xc
        have HS := hid_of hs'
        have HC := hid_of hc'
        clear hs' hc' HKI
        go_wp2_with fail
        refine (of_any (m : Int) _ hi0 hi1).mono ?_
        rintro e v0 ⟨rfl, hk0⟩
        have HKx0 := hid_of (HKp0.out.trans hk0)
        rw [HS.out, HQ.out, sh_lit]
        have hka0 : Kept (fun _ => False) v0 (v0.alloc (.cells #[.string nm, .int .i64 o, .int .i64 ta, .int .i64 gi] 24)) := (Kept.refl _ _).alloc _
        have HKp1 := hid_of (HKx0.out.trans hka0)
        have HBA1p := hid_of (heap_alloc_new v0 (.cells #[.string nm, .int .i64 o, .int .i64 ta, .int .i64 gi] 24))
        have hblA : v0.heap.size = v0.heap.size := rfl
        clear hk0 hka0 HKx0 HKp0 hblA 
        go_upto_region 7 with fail
        generalize v0.alloc _ = y0 at *
        generalize v0.heap.size = bA at *
        go_wp2_with fail
        refine (of_ref (m : Int) _ hi0 hi1).mono ?_
        rintro e v1 ⟨rfl, hk1⟩
        have HKx1 := hid_of (HKp1.out.trans hk1)
        have HBA1 := hid_of (box_kept hk1 HBA1p.out (fun f => f))
        rw [HS.out, HQ.out, sh_lit]
        have hka1 : Kept (fun _ => False) v1 (v1.alloc (.cells #[.string nm, .int .i64 o, .int .i64 ta, .int .i64 gi] 27)) := (Kept.refl _ _).alloc _
        have HKp2 := hid_of (HKx1.out.trans hka1)
        have HBA2p := hid_of (box_kept hka1 HBA1.out (fun f => f))
        have HBB2p := hid_of (heap_alloc_new v1 (.cells #[.string nm, .int .i64 o, .int .i64 ta, .int .i64 gi] 27))
        have hblB : v1.heap.size = v1.heap.size := rfl
        clear hk1 hka1 HKx1 HKp1 hblB HBA1p HBA1
        go_upto_region 8 with fail
        generalize v1.alloc _ = y1 at *
        generalize v1.heap.size = bB at *
        go_wp2_with fail
        refine (sysof_any (m : Int) _ hi0 hi1).mono ?_
        rintro e v2 ⟨rfl, hk2⟩
        have HKx2 := hid_of (HKp2.out.trans hk2)
        have HBA2 := hid_of (box_kept hk2 HBA2p.out (fun f => f))
        have HBB2 := hid_of (box_kept hk2 HBB2p.out (fun f => f))
        rw [HC.out, HQ2.out, sh_lit]
        have hka2 : Kept (fun _ => False) v2 (v2.alloc (.cells #[.string nm2, .int .i64 o2, .int .i64 ta2, .int .i64 gi2] 24)) := (Kept.refl _ _).alloc _
        have HKp3 := hid_of (HKx2.out.trans hka2)
        have HBA3p := hid_of (box_kept hka2 HBA2.out (fun f => f))
        have HBB3p := hid_of (box_kept hka2 HBB2.out (fun f => f))
        have HBC3p := hid_of (heap_alloc_new v2 (.cells #[.string nm2, .int .i64 o2, .int .i64 ta2, .int .i64 gi2] 24))
        have hblC : v2.heap.size = v2.heap.size := rfl
        clear hk2 hka2 HKx2 HKp2 hblC HBA2p HBA2 HBB2p HBB2
        go_upto_region 9 with fail
        generalize v2.alloc _ = y2 at *
        generalize v2.heap.size = bC at *
        go_wp2_with fail
        refine (sysof_ref (m : Int) _ hi0 hi1).mono ?_
        rintro e v3 ⟨rfl, hk3⟩
        have HKx3 := hid_of (HKp3.out.trans hk3)
        have HBA3 := hid_of (box_kept hk3 HBA3p.out (fun f => f))
        have HBB3 := hid_of (box_kept hk3 HBB3p.out (fun f => f))
        have HBC3 := hid_of (box_kept hk3 HBC3p.out (fun f => f))
        rw [HC.out, HQ2.out, sh_lit]
        have hka3 : Kept (fun _ => False) v3 (v3.alloc (.cells #[.string nm2, .int .i64 o2, .int .i64 ta2, .int .i64 gi2] 27)) := (Kept.refl _ _).alloc _
        have HKp4 := hid_of (HKx3.out.trans hka3)
        have HBA4p := hid_of (box_kept hka3 HBA3.out (fun f => f))
        have HBB4p := hid_of (box_kept hka3 HBB3.out (fun f => f))
        have HBC4p := hid_of (box_kept hka3 HBC3.out (fun f => f))
        have HBD4p := hid_of (heap_alloc_new v3 (.cells #[.string nm2, .int .i64 o2, .int .i64 ta2, .int .i64 gi2] 27))
        have hblD : v3.heap.size = v3.heap.size := rfl
        clear hk3 hka3 HKx3 HKp3 hblD HBA3p HBA3 HBB3p HBB3 HBC3p HBC3
        go_upto_region 10 with fail
        generalize v3.alloc _ = y3 at *
        generalize v3.heap.size = bD at *
        have cA0 : y3.cell? ⟨bA, 0, none⟩ = some (.string nm) := by rw [cell_block _ _ _ _ _ _ HBA4p.out]; rfl
        have cA1 : y3.cell? ⟨bA, 1, none⟩ = some (.int .i64 o) := by rw [cell_block _ _ _ _ _ _ HBA4p.out]; rfl
        have cA2 : y3.cell? ⟨bA, 2, none⟩ = some (.int .i64 ta) := by rw [cell_block _ _ _ _ _ _ HBA4p.out]; rfl
        have cA3 : y3.cell? ⟨bA, 3, none⟩ = some (.int .i64 gi) := by rw [cell_block _ _ _ _ _ _ HBA4p.out]; rfl
        have cB0 : y3.cell? ⟨bB, 0, none⟩ = some (.string nm) := by rw [cell_block _ _ _ _ _ _ HBB4p.out]; rfl
        have cB1 : y3.cell? ⟨bB, 1, none⟩ = some (.int .i64 o) := by rw [cell_block _ _ _ _ _ _ HBB4p.out]; rfl
        have cB2 : y3.cell? ⟨bB, 2, none⟩ = some (.int .i64 ta) := by rw [cell_block _ _ _ _ _ _ HBB4p.out]; rfl
        have cB3 : y3.cell? ⟨bB, 3, none⟩ = some (.int .i64 gi) := by rw [cell_block _ _ _ _ _ _ HBB4p.out]; rfl
        have cC0 : y3.cell? ⟨bC, 0, none⟩ = some (.string nm2) := by rw [cell_block _ _ _ _ _ _ HBC4p.out]; rfl
        have cC1 : y3.cell? ⟨bC, 1, none⟩ = some (.int .i64 o2) := by rw [cell_block _ _ _ _ _ _ HBC4p.out]; rfl
        have cC2 : y3.cell? ⟨bC, 2, none⟩ = some (.int .i64 ta2) := by rw [cell_block _ _ _ _ _ _ HBC4p.out]; rfl
        have cC3 : y3.cell? ⟨bC, 3, none⟩ = some (.int .i64 gi2) := by rw [cell_block _ _ _ _ _ _ HBC4p.out]; rfl
        have cD0 : y3.cell? ⟨bD, 0, none⟩ = some (.string nm2) := by rw [cell_block _ _ _ _ _ _ HBD4p.out]; rfl
        have cD1 : y3.cell? ⟨bD, 1, none⟩ = some (.int .i64 o2) := by rw [cell_block _ _ _ _ _ _ HBD4p.out]; rfl
        have cD2 : y3.cell? ⟨bD, 2, none⟩ = some (.int .i64 ta2) := by rw [cell_block _ _ _ _ _ _ HBD4p.out]; rfl
        have cD3 : y3.cell? ⟨bD, 3, none⟩ = some (.int .i64 gi2) := by rw [cell_block _ _ _ _ _ _ HBD4p.out]; rfl
        go_wp2_with fail
        refine (shape_same nm o ta gi y3).mono ?_
        rintro e z1 ⟨rfl, hz1⟩
        have HKz1 := hid_of (HKp4.out.trans hz1)
        have HZB := hid_of (box_kept hz1 HBB4p.out (fun f => f))
        have HZC := hid_of (box_kept hz1 HBC4p.out (fun f => f))
        have HZD := hid_of (box_kept hz1 HBD4p.out (fun f => f))
        have dC0 : z1.cell? ⟨bC, 0, none⟩ = some (.string nm2) := by rw [cell_block _ _ _ _ _ _ HZC.out]; rfl
        have dC1 : z1.cell? ⟨bC, 1, none⟩ = some (.int .i64 o2) := by rw [cell_block _ _ _ _ _ _ HZC.out]; rfl
        have dC2 : z1.cell? ⟨bC, 2, none⟩ = some (.int .i64 ta2) := by rw [cell_block _ _ _ _ _ _ HZC.out]; rfl
        have dC3 : z1.cell? ⟨bC, 3, none⟩ = some (.int .i64 gi2) := by rw [cell_block _ _ _ _ _ _ HZC.out]; rfl
        have dD0 : z1.cell? ⟨bD, 0, none⟩ = some (.string nm2) := by rw [cell_block _ _ _ _ _ _ HZD.out]; rfl
        have dD1 : z1.cell? ⟨bD, 1, none⟩ = some (.int .i64 o2) := by rw [cell_block _ _ _ _ _ _ HZD.out]; rfl
        have dD2 : z1.cell? ⟨bD, 2, none⟩ = some (.int .i64 ta2) := by rw [cell_block _ _ _ _ _ _ HZD.out]; rfl
        have dD3 : z1.cell? ⟨bD, 3, none⟩ = some (.int .i64 gi2) := by rw [cell_block _ _ _ _ _ _ HZD.out]; rfl
        clear cA0 cA1 cA2 cA3 cB0 cB1 cB2 cB3 cC0 cC1 cC2 cC3 cD0 cD1 cD2 cD3 hz1 HKp4 HBA4p HBB4p HBC4p HBD4p
        go_wp2_with fail
        refine (shape_same nm2 o2 ta2 gi2 z1).mono ?_
        rintro e z2 ⟨rfl, hz2⟩
        have HKz2 := hid_of (HKz1.out.trans hz2)
        have HYB := hid_of (box_kept hz2 HZB.out (fun f => f))
        have HYD := hid_of (box_kept hz2 HZD.out (fun f => f))
        clear dC0 dC1 dC2 dC3 dD0 dD1 dD2 dD3 hz2 HKz1 HZB HZC HZD
        have eB : z2.cell? ⟨bB, 0, none⟩ = some (.string nm) := by rw [cell_block _ _ _ _ _ _ HYB.out]; rfl
        go_wp2_with fail
        refine (byname_any nm z2).mono ?_
        rintro e z3 ⟨rfl, hz3⟩
        rw [HNM.out]
        have HKz3 := hid_of (HKz2.out.trans hz3)
        have HXD := hid_of (box_kept hz3 HYD.out (fun f => f))
        clear eB hz3 HKz2 HYB HYD HNM
        have eD : z3.cell? ⟨bD, 0, none⟩ = some (.string nm2) := by rw [cell_block _ _ _ _ _ _ HXD.out]; rfl
        go_wp2_with fail
        refine (sysname_any nm2 z3).mono ?_
        rintro e z4 ⟨rfl, hz4⟩
        rw [HNM2.out]
        have HKz4 := hid_of (HKz3.out.trans hz4)
        clear eD hz4 HKz3 HXD HNM2
        go_wp2
        go_roundw
        case rel => exact ⟨m + 2 + 1, by omega, by congr 1; go_num, HKz4.out⟩
        case measure => simp [intOf]; omega
      · obtain ⟨m, rfl⟩ : ∃ m, k = m + 2 := ⟨k - 2, by omega⟩
        have him : ((m + 2 : Nat) : Int) - 2 = (m : Int) := by omega
        rw [him] at hki hi0 hi1 ⊢
        have HQ := hid_of (row_at (L := insL) (show m < insL.length from by show m < 46; omega)).2
        have hs' := (row_at (L := insL) (show m < insL.length from by show m < 46; omega)).1
        have HNM := hid_of (ins_named m (by omega))
        have HQ2 : Hid (isRow sysL (m : Int) = false) := decide_eq_false (by have : sysL.length = 5 := rfl; omega)
        have hc' : rowS sysL (m : Int) = Sh.none := if_neg (by have : sysL.length = 5 := rfl; omega)
        clear hcase
        generalize insL.getD m Sh.none = xs at *
        generalize Sh.none = xc at hc'
        obtain ⟨nm, o, ta, gi⟩ := xs
        obtain ⟨nm2, o2, ta2, gi2⟩ := xc
        have HS := hid_of hs'
        have HC := hid_of hc'
        clear hs' hc' HKI
        go_wp2_with fail
        refine (of_any (m : Int) _ hi0 hi1).mono ?_
        rintro e v0 ⟨rfl, hk0⟩
        have HKx0 := hid_of (HKp0.out.trans hk0)
        rw [HS.out, HQ.out, sh_lit]
        have hka0 : Kept (fun _ => False) v0 (v0.alloc (.cells #[.string nm, .int .i64 o, .int .i64 ta, .int .i64 gi] 24)) := (Kept.refl _ _).alloc _
        have HKp1 := hid_of (HKx0.out.trans hka0)
        have HBA1p := hid_of (heap_alloc_new v0 (.cells #[.string nm, .int .i64 o, .int .i64 ta, .int .i64 gi] 24))
        have hblA : v0.heap.size = v0.heap.size := rfl
        clear hk0 hka0 HKx0 HKp0 hblA 
        go_upto_region 7 with fail
        generalize v0.alloc _ = y0 at *
        generalize v0.heap.size = bA at *
        go_wp2_with fail
        refine (of_ref (m : Int) _ hi0 hi1).mono ?_
        rintro e v1 ⟨rfl, hk1⟩
        have HKx1 := hid_of (HKp1.out.trans hk1)
        have HBA1 := hid_of (box_kept hk1 HBA1p.out (fun f => f))
        rw [HS.out, HQ.out, sh_lit]
        have hka1 : Kept (fun _ => False) v1 (v1.alloc (.cells #[.string nm, .int .i64 o, .int .i64 ta, .int .i64 gi] 27)) := (Kept.refl _ _).alloc _
        have HKp2 := hid_of (HKx1.out.trans hka1)
        have HBA2p := hid_of (box_kept hka1 HBA1.out (fun f => f))
        have HBB2p := hid_of (heap_alloc_new v1 (.cells #[.string nm, .int .i64 o, .int .i64 ta, .int .i64 gi] 27))
        have hblB : v1.heap.size = v1.heap.size := rfl
        clear hk1 hka1 HKx1 HKp1 hblB HBA1p HBA1
        go_upto_region 8 with fail
        generalize v1.alloc _ = y1 at *
        generalize v1.heap.size = bB at *
        go_wp2_with fail
        refine (sysof_any (m : Int) _ hi0 hi1).mono ?_
        rintro e v2 ⟨rfl, hk2⟩
        have HKx2 := hid_of (HKp2.out.trans hk2)
        have HBA2 := hid_of (box_kept hk2 HBA2p.out (fun f => f))
        have HBB2 := hid_of (box_kept hk2 HBB2p.out (fun f => f))
        rw [HC.out, HQ2.out, sh_lit]
        have hka2 : Kept (fun _ => False) v2 (v2.alloc (.cells #[.string nm2, .int .i64 o2, .int .i64 ta2, .int .i64 gi2] 24)) := (Kept.refl _ _).alloc _
        have HKp3 := hid_of (HKx2.out.trans hka2)
        have HBA3p := hid_of (box_kept hka2 HBA2.out (fun f => f))
        have HBB3p := hid_of (box_kept hka2 HBB2.out (fun f => f))
        have HBC3p := hid_of (heap_alloc_new v2 (.cells #[.string nm2, .int .i64 o2, .int .i64 ta2, .int .i64 gi2] 24))
        have hblC : v2.heap.size = v2.heap.size := rfl
        clear hk2 hka2 HKx2 HKp2 hblC HBA2p HBA2 HBB2p HBB2
        go_upto_region 9 with fail
        generalize v2.alloc _ = y2 at *
        generalize v2.heap.size = bC at *
        go_wp2_with fail
        refine (sysof_ref (m : Int) _ hi0 hi1).mono ?_
        rintro e v3 ⟨rfl, hk3⟩
        have HKx3 := hid_of (HKp3.out.trans hk3)
        have HBA3 := hid_of (box_kept hk3 HBA3p.out (fun f => f))
        have HBB3 := hid_of (box_kept hk3 HBB3p.out (fun f => f))
        have HBC3 := hid_of (box_kept hk3 HBC3p.out (fun f => f))
        rw [HC.out, HQ2.out, sh_lit]
        have hka3 : Kept (fun _ => False) v3 (v3.alloc (.cells #[.string nm2, .int .i64 o2, .int .i64 ta2, .int .i64 gi2] 27)) := (Kept.refl _ _).alloc _
        have HKp4 := hid_of (HKx3.out.trans hka3)
        have HBA4p := hid_of (box_kept hka3 HBA3.out (fun f => f))
        have HBB4p := hid_of (box_kept hka3 HBB3.out (fun f => f))
        have HBC4p := hid_of (box_kept hka3 HBC3.out (fun f => f))
        have HBD4p := hid_of (heap_alloc_new v3 (.cells #[.string nm2, .int .i64 o2, .int .i64 ta2, .int .i64 gi2] 27))
        have hblD : v3.heap.size = v3.heap.size := rfl
        clear hk3 hka3 HKx3 HKp3 hblD HBA3p HBA3 HBB3p HBB3 HBC3p HBC3
        go_upto_region 10 with fail
        generalize v3.alloc _ = y3 at *
        generalize v3.heap.size = bD at *
        have cA0 : y3.cell? ⟨bA, 0, none⟩ = some (.string nm) := by rw [cell_block _ _ _ _ _ _ HBA4p.out]; rfl
        have cA1 : y3.cell? ⟨bA, 1, none⟩ = some (.int .i64 o) := by rw [cell_block _ _ _ _ _ _ HBA4p.out]; rfl
        have cA2 : y3.cell? ⟨bA, 2, none⟩ = some (.int .i64 ta) := by rw [cell_block _ _ _ _ _ _ HBA4p.out]; rfl
        have cA3 : y3.cell? ⟨bA, 3, none⟩ = some (.int .i64 gi) := by rw [cell_block _ _ _ _ _ _ HBA4p.out]; rfl
        have cB0 : y3.cell? ⟨bB, 0, none⟩ = some (.string nm) := by rw [cell_block _ _ _ _ _ _ HBB4p.out]; rfl
        have cB1 : y3.cell? ⟨bB, 1, none⟩ = some (.int .i64 o) := by rw [cell_block _ _ _ _ _ _ HBB4p.out]; rfl
        have cB2 : y3.cell? ⟨bB, 2, none⟩ = some (.int .i64 ta) := by rw [cell_block _ _ _ _ _ _ HBB4p.out]; rfl
        have cB3 : y3.cell? ⟨bB, 3, none⟩ = some (.int .i64 gi) := by rw [cell_block _ _ _ _ _ _ HBB4p.out]; rfl
        have cC0 : y3.cell? ⟨bC, 0, none⟩ = some (.string nm2) := by rw [cell_block _ _ _ _ _ _ HBC4p.out]; rfl
        have cC1 : y3.cell? ⟨bC, 1, none⟩ = some (.int .i64 o2) := by rw [cell_block _ _ _ _ _ _ HBC4p.out]; rfl
        have cC2 : y3.cell? ⟨bC, 2, none⟩ = some (.int .i64 ta2) := by rw [cell_block _ _ _ _ _ _ HBC4p.out]; rfl
        have cC3 : y3.cell? ⟨bC, 3, none⟩ = some (.int .i64 gi2) := by rw [cell_block _ _ _ _ _ _ HBC4p.out]; rfl
        have cD0 : y3.cell? ⟨bD, 0, none⟩ = some (.string nm2) := by rw [cell_block _ _ _ _ _ _ HBD4p.out]; rfl
        have cD1 : y3.cell? ⟨bD, 1, none⟩ = some (.int .i64 o2) := by rw [cell_block _ _ _ _ _ _ HBD4p.out]; rfl
        have cD2 : y3.cell? ⟨bD, 2, none⟩ = some (.int .i64 ta2) := by rw [cell_block _ _ _ _ _ _ HBD4p.out]; rfl
        have cD3 : y3.cell? ⟨bD, 3, none⟩ = some (.int .i64 gi2) := by rw [cell_block _ _ _ _ _ _ HBD4p.out]; rfl
        go_wp2_with fail
        refine (shape_same nm o ta gi y3).mono ?_
        rintro e z1 ⟨rfl, hz1⟩
        have HKz1 := hid_of (HKp4.out.trans hz1)
        have HZB := hid_of (box_kept hz1 HBB4p.out (fun f => f))
        have HZC := hid_of (box_kept hz1 HBC4p.out (fun f => f))
        have HZD := hid_of (box_kept hz1 HBD4p.out (fun f => f))
        have dC0 : z1.cell? ⟨bC, 0, none⟩ = some (.string nm2) := by rw [cell_block _ _ _ _ _ _ HZC.out]; rfl
        have dC1 : z1.cell? ⟨bC, 1, none⟩ = some (.int .i64 o2) := by rw [cell_block _ _ _ _ _ _ HZC.out]; rfl
        have dC2 : z1.cell? ⟨bC, 2, none⟩ = some (.int .i64 ta2) := by rw [cell_block _ _ _ _ _ _ HZC.out]; rfl
        have dC3 : z1.cell? ⟨bC, 3, none⟩ = some (.int .i64 gi2) := by rw [cell_block _ _ _ _ _ _ HZC.out]; rfl
        have dD0 : z1.cell? ⟨bD, 0, none⟩ = some (.string nm2) := by rw [cell_block _ _ _ _ _ _ HZD.out]; rfl
        have dD1 : z1.cell? ⟨bD, 1, none⟩ = some (.int .i64 o2) := by rw [cell_block _ _ _ _ _ _ HZD.out]; rfl
        have dD2 : z1.cell? ⟨bD, 2, none⟩ = some (.int .i64 ta2) := by rw [cell_block _ _ _ _ _ _ HZD.out]; rfl
        have dD3 : z1.cell? ⟨bD, 3, none⟩ = some (.int .i64 gi2) := by rw [cell_block _ _ _ _ _ _ HZD.out]; rfl
        clear cA0 cA1 cA2 cA3 cB0 cB1 cB2 cB3 cC0 cC1 cC2 cC3 cD0 cD1 cD2 cD3 hz1 HKp4 HBA4p HBB4p HBC4p HBD4p
        go_wp2_with fail
        refine (shape_same nm2 o2 ta2 gi2 z1).mono ?_
        rintro e z2 ⟨rfl, hz2⟩
        have HKz2 := hid_of (HKz1.out.trans hz2)
        have HYB := hid_of (box_kept hz2 HZB.out (fun f => f))
        have HYD := hid_of (box_kept hz2 HZD.out (fun f => f))
        clear dC0 dC1 dC2 dC3 dD0 dD1 dD2 dD3 hz2 HKz1 HZB HZC HZD
        have eB : z2.cell? ⟨bB, 0, none⟩ = some (.string nm) := by rw [cell_block _ _ _ _ _ _ HYB.out]; rfl
        go_wp2_with fail
        refine (byname_any nm z2).mono ?_
        rintro e z3 ⟨rfl, hz3⟩
        rw [HNM.out]
        have HKz3 := hid_of (HKz2.out.trans hz3)
        have HXD := hid_of (box_kept hz3 HYD.out (fun f => f))
        clear eB hz3 HKz2 HYB HYD HNM
        go_wp2
        go_roundw
        case rel => exact ⟨m + 2 + 1, by omega, by congr 1; go_num, HKz3.out⟩
        case measure => simp [intOf]; omega
      · have HQ : Hid (isRow insL ((k : Int) - 2) = false) := decide_eq_false (by have : insL.length = 46 := rfl; omega)
        have hs' : rowS insL ((k : Int) - 2) = Sh.none := if_neg (by have : insL.length = 46 := rfl; omega)
        have HQ2 : Hid (isRow sysL ((k : Int) - 2) = false) := decide_eq_false (by have : sysL.length = 5 := rfl; omega)
        have hc' : rowS sysL ((k : Int) - 2) = Sh.none := if_neg (by have : sysL.length = 5 := rfl; omega)
        clear hcase
        generalize Sh.none = xs at hs'
        generalize Sh.none = xc at hc'
        obtain ⟨nm, o, ta, gi⟩ := xs
        obtain ⟨nm2, o2, ta2, gi2⟩ := xc
        have HS := hid_of hs'
        have HC := hid_of hc'
        clear hs' hc' HKI
        obtain ⟨iv, hiv⟩ : ∃ iv, iv = (k : Int) - 2 := ⟨_, rfl⟩
        rw [← hiv] at hki hi0 hi1 HQ HQ2 HS HC ⊢
        have HIV := hid_of hiv
        clear hiv
        go_wp2_with fail
        refine (of_any iv _ hi0 hi1).mono ?_
        rintro e v0 ⟨rfl, hk0⟩
        have HKx0 := hid_of (HKp0.out.trans hk0)
        rw [HS.out, HQ.out, sh_lit]
        have hka0 : Kept (fun _ => False) v0 (v0.alloc (.cells #[.string nm, .int .i64 o, .int .i64 ta, .int .i64 gi] 24)) := (Kept.refl _ _).alloc _
        have HKp1 := hid_of (HKx0.out.trans hka0)
        have HBA1p := hid_of (heap_alloc_new v0 (.cells #[.string nm, .int .i64 o, .int .i64 ta, .int .i64 gi] 24))
        have hblA : v0.heap.size = v0.heap.size := rfl
        clear hk0 hka0 HKx0 HKp0 hblA 
        go_upto_region 7 with fail
        generalize v0.alloc _ = y0 at *
        generalize v0.heap.size = bA at *
        go_wp2_with fail
        refine (of_ref iv _ hi0 hi1).mono ?_
        rintro e v1 ⟨rfl, hk1⟩
        have HKx1 := hid_of (HKp1.out.trans hk1)
        have HBA1 := hid_of (box_kept hk1 HBA1p.out (fun f => f))
        rw [HS.out, HQ.out, sh_lit]
        have hka1 : Kept (fun _ => False) v1 (v1.alloc (.cells #[.string nm, .int .i64 o, .int .i64 ta, .int .i64 gi] 27)) := (Kept.refl _ _).alloc _
        have HKp2 := hid_of (HKx1.out.trans hka1)
        have HBA2p := hid_of (box_kept hka1 HBA1.out (fun f => f))
        have HBB2p := hid_of (heap_alloc_new v1 (.cells #[.string nm, .int .i64 o, .int .i64 ta, .int .i64 gi] 27))
        have hblB : v1.heap.size = v1.heap.size := rfl
        clear hk1 hka1 HKx1 HKp1 hblB HBA1p HBA1
        go_upto_region 8 with fail
        generalize v1.alloc _ = y1 at *
        generalize v1.heap.size = bB at *
        go_wp2_with fail
        refine (sysof_any iv _ hi0 hi1).mono ?_
        rintro e v2 ⟨rfl, hk2⟩
        have HKx2 := hid_of (HKp2.out.trans hk2)
        have HBA2 := hid_of (box_kept hk2 HBA2p.out (fun f => f))
        have HBB2 := hid_of (box_kept hk2 HBB2p.out (fun f => f))
        rw [HC.out, HQ2.out, sh_lit]
        have hka2 : Kept (fun _ => False) v2 (v2.alloc (.cells #[.string nm2, .int .i64 o2, .int .i64 ta2, .int .i64 gi2] 24)) := (Kept.refl _ _).alloc _
        have HKp3 := hid_of (HKx2.out.trans hka2)
        have HBA3p := hid_of (box_kept hka2 HBA2.out (fun f => f))
        have HBB3p := hid_of (box_kept hka2 HBB2.out (fun f => f))
        have HBC3p := hid_of (heap_alloc_new v2 (.cells #[.string nm2, .int .i64 o2, .int .i64 ta2, .int .i64 gi2] 24))
        have hblC : v2.heap.size = v2.heap.size := rfl
        clear hk2 hka2 HKx2 HKp2 hblC HBA2p HBA2 HBB2p HBB2
        go_upto_region 9 with fail
        generalize v2.alloc _ = y2 at *
        generalize v2.heap.size = bC at *
        go_wp2_with fail
        refine (sysof_ref iv _ hi0 hi1).mono ?_
        rintro e v3 ⟨rfl, hk3⟩
        have HKx3 := hid_of (HKp3.out.trans hk3)
        have HBA3 := hid_of (box_kept hk3 HBA3p.out (fun f => f))
        have HBB3 := hid_of (box_kept hk3 HBB3p.out (fun f => f))
        have HBC3 := hid_of (box_kept hk3 HBC3p.out (fun f => f))
        rw [HC.out, HQ2.out, sh_lit]
        have hka3 : Kept (fun _ => False) v3 (v3.alloc (.cells #[.string nm2, .int .i64 o2, .int .i64 ta2, .int .i64 gi2] 27)) := (Kept.refl _ _).alloc _
        have HKp4 := hid_of (HKx3.out.trans hka3)
        have HBA4p := hid_of (box_kept hka3 HBA3.out (fun f => f))
        have HBB4p := hid_of (box_kept hka3 HBB3.out (fun f => f))
        have HBC4p := hid_of (box_kept hka3 HBC3.out (fun f => f))
        have HBD4p := hid_of (heap_alloc_new v3 (.cells #[.string nm2, .int .i64 o2, .int .i64 ta2, .int .i64 gi2] 27))
        have hblD : v3.heap.size = v3.heap.size := rfl
        clear hk3 hka3 HKx3 HKp3 hblD HBA3p HBA3 HBB3p HBB3 HBC3p HBC3
        go_upto_region 10 with fail
        generalize v3.alloc _ = y3 at *
        generalize v3.heap.size = bD at *
        have cA0 : y3.cell? ⟨bA, 0, none⟩ = some (.string nm) := by rw [cell_block _ _ _ _ _ _ HBA4p.out]; rfl
        have cA1 : y3.cell? ⟨bA, 1, none⟩ = some (.int .i64 o) := by rw [cell_block _ _ _ _ _ _ HBA4p.out]; rfl
        have cA2 : y3.cell? ⟨bA, 2, none⟩ = some (.int .i64 ta) := by rw [cell_block _ _ _ _ _ _ HBA4p.out]; rfl
        have cA3 : y3.cell? ⟨bA, 3, none⟩ = some (.int .i64 gi) := by rw [cell_block _ _ _ _ _ _ HBA4p.out]; rfl
        have cB0 : y3.cell? ⟨bB, 0, none⟩ = some (.string nm) := by rw [cell_block _ _ _ _ _ _ HBB4p.out]; rfl
        have cB1 : y3.cell? ⟨bB, 1, none⟩ = some (.int .i64 o) := by rw [cell_block _ _ _ _ _ _ HBB4p.out]; rfl
        have cB2 : y3.cell? ⟨bB, 2, none⟩ = some (.int .i64 ta) := by rw [cell_block _ _ _ _ _ _ HBB4p.out]; rfl
        have cB3 : y3.cell? ⟨bB, 3, none⟩ = some (.int .i64 gi) := by rw [cell_block _ _ _ _ _ _ HBB4p.out]; rfl
        have cC0 : y3.cell? ⟨bC, 0, none⟩ = some (.string nm2) := by rw [cell_block _ _ _ _ _ _ HBC4p.out]; rfl
        have cC1 : y3.cell? ⟨bC, 1, none⟩ = some (.int .i64 o2) := by rw [cell_block _ _ _ _ _ _ HBC4p.out]; rfl
        have cC2 : y3.cell? ⟨bC, 2, none⟩ = some (.int .i64 ta2) := by rw [cell_block _ _ _ _ _ _ HBC4p.out]; rfl
        have cC3 : y3.cell? ⟨bC, 3, none⟩ = some (.int .i64 gi2) := by rw [cell_block _ _ _ _ _ _ HBC4p.out]; rfl
        have cD0 : y3.cell? ⟨bD, 0, none⟩ = some (.string nm2) := by rw [cell_block _ _ _ _ _ _ HBD4p.out]; rfl
        have cD1 : y3.cell? ⟨bD, 1, none⟩ = some (.int .i64 o2) := by rw [cell_block _ _ _ _ _ _ HBD4p.out]; rfl
        have cD2 : y3.cell? ⟨bD, 2, none⟩ = some (.int .i64 ta2) := by rw [cell_block _ _ _ _ _ _ HBD4p.out]; rfl
        have cD3 : y3.cell? ⟨bD, 3, none⟩ = some (.int .i64 gi2) := by rw [cell_block _ _ _ _ _ _ HBD4p.out]; rfl
        go_wp2_with fail
        refine (shape_same nm o ta gi y3).mono ?_
        rintro e z1 ⟨rfl, hz1⟩
        have HKz1 := hid_of (HKp4.out.trans hz1)
        have HZB := hid_of (box_kept hz1 HBB4p.out (fun f => f))
        have HZC := hid_of (box_kept hz1 HBC4p.out (fun f => f))
        have HZD := hid_of (box_kept hz1 HBD4p.out (fun f => f))
        have dC0 : z1.cell? ⟨bC, 0, none⟩ = some (.string nm2) := by rw [cell_block _ _ _ _ _ _ HZC.out]; rfl
        have dC1 : z1.cell? ⟨bC, 1, none⟩ = some (.int .i64 o2) := by rw [cell_block _ _ _ _ _ _ HZC.out]; rfl
        have dC2 : z1.cell? ⟨bC, 2, none⟩ = some (.int .i64 ta2) := by rw [cell_block _ _ _ _ _ _ HZC.out]; rfl
        have dC3 : z1.cell? ⟨bC, 3, none⟩ = some (.int .i64 gi2) := by rw [cell_block _ _ _ _ _ _ HZC.out]; rfl
        have dD0 : z1.cell? ⟨bD, 0, none⟩ = some (.string nm2) := by rw [cell_block _ _ _ _ _ _ HZD.out]; rfl
        have dD1 : z1.cell? ⟨bD, 1, none⟩ = some (.int .i64 o2) := by rw [cell_block _ _ _ _ _ _ HZD.out]; rfl
        have dD2 : z1.cell? ⟨bD, 2, none⟩ = some (.int .i64 ta2) := by rw [cell_block _ _ _ _ _ _ HZD.out]; rfl
        have dD3 : z1.cell? ⟨bD, 3, none⟩ = some (.int .i64 gi2) := by rw [cell_block _ _ _ _ _ _ HZD.out]; rfl
        clear cA0 cA1 cA2 cA3 cB0 cB1 cB2 cB3 cC0 cC1 cC2 cC3 cD0 cD1 cD2 cD3 hz1 HKp4 HBA4p HBB4p HBC4p HBD4p
        go_wp2_with fail
        refine (shape_same nm2 o2 ta2 gi2 z1).mono ?_
        rintro e z2 ⟨rfl, hz2⟩
        have HKz2 := hid_of (HKz1.out.trans hz2)
        have HYB := hid_of (box_kept hz2 HZB.out (fun f => f))
        have HYD := hid_of (box_kept hz2 HZD.out (fun f => f))
        clear dC0 dC1 dC2 dC3 dD0 dD1 dD2 dD3 hz2 HKz1 HZB HZC HZD
        go_wp2
        go_roundw
        case rel => exact ⟨k + 1, by omega, by rw [HIV.out]; congr 1; go_num, HKz2.out⟩
        case measure => rw [HIV.out]; simp [intOf]; omega
    · have hki : (49 : Int) ≤ (k : Int) - 2 := by omega
      have HKp0 := hid_of hKe
      have hi0 := hn0
      have hi1 := hn1
      obtain ⟨q, hq⟩ : ∃ q, isRow insL n = q := ⟨_, rfl⟩
      obtain ⟨q2, hq2⟩ : ∃ q, isRow sysL n = q := ⟨_, rfl⟩
      obtain ⟨xs, hs'⟩ : ∃ x, rowS insL n = x := ⟨_, rfl⟩
      obtain ⟨xc, hc'⟩ : ∃ x, rowS sysL n = x := ⟨_, rfl⟩
      obtain ⟨na, nb, hna⟩ := namedV_form insL name
      obtain ⟨ma, mb, hma⟩ := namedV_form sysL name
      obtain ⟨nm, o, ta, gi⟩ := xs
      obtain ⟨nm2, o2, ta2, gi2⟩ := xc
      have HQ := hid_of hq
      have HQ2 := hid_of hq2
      have HS := hid_of hs'
      have HC := hid_of hc'
      have HNA := hid_of hna
      have HMA := hid_of hma
      clear hKe hk hlt hq hq2 hs' hc' hna hma
      go_wp2_with fail
      refine (of_any n _ hi0 hi1).mono ?_
      rintro e v0 ⟨rfl, hk0⟩
      have HKx0 := hid_of (HKp0.out.trans hk0)
      rw [HS.out, HQ.out, sh_lit]
      have hka0 : Kept (fun _ => False) v0 (v0.alloc (.cells #[.string nm, .int .i64 o, .int .i64 ta, .int .i64 gi] 24)) := (Kept.refl _ _).alloc _
      have HKp1 := hid_of (HKx0.out.trans hka0)
      have HBA1p := hid_of (heap_alloc_new v0 (.cells #[.string nm, .int .i64 o, .int .i64 ta, .int .i64 gi] 24))
      have hblA : v0.heap.size = v0.heap.size := rfl
      clear hk0 hka0 HKx0 HKp0 hblA 
      go_upto_region 21 with fail
      generalize v0.alloc _ = y0 at *
      generalize v0.heap.size = bA at *
      go_wp2_with fail
      refine (of_ref n _ hi0 hi1).mono ?_
      rintro e v1 ⟨rfl, hk1⟩
      have HKx1 := hid_of (HKp1.out.trans hk1)
      have HBA1 := hid_of (box_kept hk1 HBA1p.out (fun f => f))
      rw [HS.out, HQ.out, sh_lit]
      have hka1 : Kept (fun _ => False) v1 (v1.alloc (.cells #[.string nm, .int .i64 o, .int .i64 ta, .int .i64 gi] 27)) := (Kept.refl _ _).alloc _
      have HKp2 := hid_of (HKx1.out.trans hka1)
      have HBA2p := hid_of (box_kept hka1 HBA1.out (fun f => f))
      have HBB2p := hid_of (heap_alloc_new v1 (.cells #[.string nm, .int .i64 o, .int .i64 ta, .int .i64 gi] 27))
      have hblB : v1.heap.size = v1.heap.size := rfl
      clear hk1 hka1 HKx1 HKp1 hblB HBA1p HBA1
      go_upto_region 22 with fail
      generalize v1.alloc _ = y1 at *
      generalize v1.heap.size = bB at *
      go_wp2_with fail
      refine (sysof_any n _ hi0 hi1).mono ?_
      rintro e v2 ⟨rfl, hk2⟩
      have HKx2 := hid_of (HKp2.out.trans hk2)
      have HBA2 := hid_of (box_kept hk2 HBA2p.out (fun f => f))
      have HBB2 := hid_of (box_kept hk2 HBB2p.out (fun f => f))
      rw [HC.out, HQ2.out, sh_lit]
      have hka2 : Kept (fun _ => False) v2 (v2.alloc (.cells #[.string nm2, .int .i64 o2, .int .i64 ta2, .int .i64 gi2] 24)) := (Kept.refl _ _).alloc _
      have HKp3 := hid_of (HKx2.out.trans hka2)
      have HBA3p := hid_of (box_kept hka2 HBA2.out (fun f => f))
      have HBB3p := hid_of (box_kept hka2 HBB2.out (fun f => f))
      have HBC3p := hid_of (heap_alloc_new v2 (.cells #[.string nm2, .int .i64 o2, .int .i64 ta2, .int .i64 gi2] 24))
      have hblC : v2.heap.size = v2.heap.size := rfl
      clear hk2 hka2 HKx2 HKp2 hblC HBA2p HBA2 HBB2p HBB2
      go_upto_region 23 with fail
      generalize v2.alloc _ = y2 at *
      generalize v2.heap.size = bC at *
      go_wp2_with fail
      refine (sysof_ref n _ hi0 hi1).mono ?_
      rintro e v3 ⟨rfl, hk3⟩
      have HKx3 := hid_of (HKp3.out.trans hk3)
      have HBA3 := hid_of (box_kept hk3 HBA3p.out (fun f => f))
      have HBB3 := hid_of (box_kept hk3 HBB3p.out (fun f => f))
      have HBC3 := hid_of (box_kept hk3 HBC3p.out (fun f => f))
      rw [HC.out, HQ2.out, sh_lit]
      have hka3 : Kept (fun _ => False) v3 (v3.alloc (.cells #[.string nm2, .int .i64 o2, .int .i64 ta2, .int .i64 gi2] 27)) := (Kept.refl _ _).alloc _
      have HKp4 := hid_of (HKx3.out.trans hka3)
      have HBA4p := hid_of (box_kept hka3 HBA3.out (fun f => f))
      have HBB4p := hid_of (box_kept hka3 HBB3.out (fun f => f))
      have HBC4p := hid_of (box_kept hka3 HBC3.out (fun f => f))
      have HBD4p := hid_of (heap_alloc_new v3 (.cells #[.string nm2, .int .i64 o2, .int .i64 ta2, .int .i64 gi2] 27))
      have hblD : v3.heap.size = v3.heap.size := rfl
      clear hk3 hka3 HKx3 HKp3 hblD HBA3p HBA3 HBB3p HBB3 HBC3p HBC3
      go_upto_region 24 with fail
      generalize v3.alloc _ = y3 at *
      generalize v3.heap.size = bD at *
      have cA0 : y3.cell? ⟨bA, 0, none⟩ = some (.string nm) := by rw [cell_block _ _ _ _ _ _ HBA4p.out]; rfl
      have cA1 : y3.cell? ⟨bA, 1, none⟩ = some (.int .i64 o) := by rw [cell_block _ _ _ _ _ _ HBA4p.out]; rfl
      have cA2 : y3.cell? ⟨bA, 2, none⟩ = some (.int .i64 ta) := by rw [cell_block _ _ _ _ _ _ HBA4p.out]; rfl
      have cA3 : y3.cell? ⟨bA, 3, none⟩ = some (.int .i64 gi) := by rw [cell_block _ _ _ _ _ _ HBA4p.out]; rfl
      have cB0 : y3.cell? ⟨bB, 0, none⟩ = some (.string nm) := by rw [cell_block _ _ _ _ _ _ HBB4p.out]; rfl
      have cB1 : y3.cell? ⟨bB, 1, none⟩ = some (.int .i64 o) := by rw [cell_block _ _ _ _ _ _ HBB4p.out]; rfl
      have cB2 : y3.cell? ⟨bB, 2, none⟩ = some (.int .i64 ta) := by rw [cell_block _ _ _ _ _ _ HBB4p.out]; rfl
      have cB3 : y3.cell? ⟨bB, 3, none⟩ = some (.int .i64 gi) := by rw [cell_block _ _ _ _ _ _ HBB4p.out]; rfl
      have cC0 : y3.cell? ⟨bC, 0, none⟩ = some (.string nm2) := by rw [cell_block _ _ _ _ _ _ HBC4p.out]; rfl
      have cC1 : y3.cell? ⟨bC, 1, none⟩ = some (.int .i64 o2) := by rw [cell_block _ _ _ _ _ _ HBC4p.out]; rfl
      have cC2 : y3.cell? ⟨bC, 2, none⟩ = some (.int .i64 ta2) := by rw [cell_block _ _ _ _ _ _ HBC4p.out]; rfl
      have cC3 : y3.cell? ⟨bC, 3, none⟩ = some (.int .i64 gi2) := by rw [cell_block _ _ _ _ _ _ HBC4p.out]; rfl
      have cD0 : y3.cell? ⟨bD, 0, none⟩ = some (.string nm2) := by rw [cell_block _ _ _ _ _ _ HBD4p.out]; rfl
      have cD1 : y3.cell? ⟨bD, 1, none⟩ = some (.int .i64 o2) := by rw [cell_block _ _ _ _ _ _ HBD4p.out]; rfl
      have cD2 : y3.cell? ⟨bD, 2, none⟩ = some (.int .i64 ta2) := by rw [cell_block _ _ _ _ _ _ HBD4p.out]; rfl
      have cD3 : y3.cell? ⟨bD, 3, none⟩ = some (.int .i64 gi2) := by rw [cell_block _ _ _ _ _ _ HBD4p.out]; rfl
      go_wp2_with fail
      refine (byname_any name y3).mono ?_
      rintro e x0 ⟨rfl, hx0⟩
      rw [HNA.out]
      have HKn0 := hid_of (HKp4.out.trans hx0)
      have HNA0 := hid_of (box_kept hx0 HBA4p.out (fun f => f))
      have HNB0 := hid_of (box_kept hx0 HBB4p.out (fun f => f))
      have HNC0 := hid_of (box_kept hx0 HBC4p.out (fun f => f))
      have HND0 := hid_of (box_kept hx0 HBD4p.out (fun f => f))
      clear hx0
      clear cA0 cA1 cA2 cA3 cB0 cB1 cB2 cB3 cC0 cC1 cC2 cC3 cD0 cD1 cD2 cD3
      go_wp2_with fail
      refine (byname_ref name x0).mono ?_
      rintro e x1 ⟨rfl, rfl⟩
      rw [HNA.out]
      go_wp2_with fail
      refine (sysname_any name x1).mono ?_
      rintro e x2 ⟨rfl, hx2⟩
      rw [HMA.out]
      have HKn2 := hid_of (HKn0.out.trans hx2)
      have HNA2 := hid_of (box_kept hx2 HNA0.out (fun f => f))
      have HNB2 := hid_of (box_kept hx2 HNB0.out (fun f => f))
      have HNC2 := hid_of (box_kept hx2 HNC0.out (fun f => f))
      have HND2 := hid_of (box_kept hx2 HND0.out (fun f => f))
      clear hx2
      go_wp2_with fail
      refine (sysname_ref name x2).mono ?_
      rintro e x3 ⟨rfl, rfl⟩
      rw [HMA.out]
      have eA0 : x3.cell? ⟨bA, 0, none⟩ = some (.string nm) := by rw [cell_block _ _ _ _ _ _ HNA2.out]; rfl
      have eA1 : x3.cell? ⟨bA, 1, none⟩ = some (.int .i64 o) := by rw [cell_block _ _ _ _ _ _ HNA2.out]; rfl
      have eA2 : x3.cell? ⟨bA, 2, none⟩ = some (.int .i64 ta) := by rw [cell_block _ _ _ _ _ _ HNA2.out]; rfl
      have eA3 : x3.cell? ⟨bA, 3, none⟩ = some (.int .i64 gi) := by rw [cell_block _ _ _ _ _ _ HNA2.out]; rfl
      have eB0 : x3.cell? ⟨bB, 0, none⟩ = some (.string nm) := by rw [cell_block _ _ _ _ _ _ HNB2.out]; rfl
      have eB1 : x3.cell? ⟨bB, 1, none⟩ = some (.int .i64 o) := by rw [cell_block _ _ _ _ _ _ HNB2.out]; rfl
      have eB2 : x3.cell? ⟨bB, 2, none⟩ = some (.int .i64 ta) := by rw [cell_block _ _ _ _ _ _ HNB2.out]; rfl
      have eB3 : x3.cell? ⟨bB, 3, none⟩ = some (.int .i64 gi) := by rw [cell_block _ _ _ _ _ _ HNB2.out]; rfl
      have eC0 : x3.cell? ⟨bC, 0, none⟩ = some (.string nm2) := by rw [cell_block _ _ _ _ _ _ HNC2.out]; rfl
      have eC1 : x3.cell? ⟨bC, 1, none⟩ = some (.int .i64 o2) := by rw [cell_block _ _ _ _ _ _ HNC2.out]; rfl
      have eC2 : x3.cell? ⟨bC, 2, none⟩ = some (.int .i64 ta2) := by rw [cell_block _ _ _ _ _ _ HNC2.out]; rfl
      have eC3 : x3.cell? ⟨bC, 3, none⟩ = some (.int .i64 gi2) := by rw [cell_block _ _ _ _ _ _ HNC2.out]; rfl
      have eD0 : x3.cell? ⟨bD, 0, none⟩ = some (.string nm2) := by rw [cell_block _ _ _ _ _ _ HND2.out]; rfl
      have eD1 : x3.cell? ⟨bD, 1, none⟩ = some (.int .i64 o2) := by rw [cell_block _ _ _ _ _ _ HND2.out]; rfl
      have eD2 : x3.cell? ⟨bD, 2, none⟩ = some (.int .i64 ta2) := by rw [cell_block _ _ _ _ _ _ HND2.out]; rfl
      have eD3 : x3.cell? ⟨bD, 3, none⟩ = some (.int .i64 gi2) := by rw [cell_block _ _ _ _ _ _ HND2.out]; rfl
      go_wp2_with fail
      refine (shape_same nm o ta gi x3).mono ?_
      rintro e z1 ⟨rfl, hz1⟩
      have HKz1 := hid_of (HKn2.out.trans hz1)
      have fC0 : z1.cell? ⟨bC, 0, none⟩ = some (.string nm2) := by rw [cell_block _ _ _ _ _ _ (box_kept hz1 HNC2.out (fun f => f))]; rfl
      have fC1 : z1.cell? ⟨bC, 1, none⟩ = some (.int .i64 o2) := by rw [cell_block _ _ _ _ _ _ (box_kept hz1 HNC2.out (fun f => f))]; rfl
      have fC2 : z1.cell? ⟨bC, 2, none⟩ = some (.int .i64 ta2) := by rw [cell_block _ _ _ _ _ _ (box_kept hz1 HNC2.out (fun f => f))]; rfl
      have fC3 : z1.cell? ⟨bC, 3, none⟩ = some (.int .i64 gi2) := by rw [cell_block _ _ _ _ _ _ (box_kept hz1 HNC2.out (fun f => f))]; rfl
      have fD0 : z1.cell? ⟨bD, 0, none⟩ = some (.string nm2) := by rw [cell_block _ _ _ _ _ _ (box_kept hz1 HND2.out (fun f => f))]; rfl
      have fD1 : z1.cell? ⟨bD, 1, none⟩ = some (.int .i64 o2) := by rw [cell_block _ _ _ _ _ _ (box_kept hz1 HND2.out (fun f => f))]; rfl
      have fD2 : z1.cell? ⟨bD, 2, none⟩ = some (.int .i64 ta2) := by rw [cell_block _ _ _ _ _ _ (box_kept hz1 HND2.out (fun f => f))]; rfl
      have fD3 : z1.cell? ⟨bD, 3, none⟩ = some (.int .i64 gi2) := by rw [cell_block _ _ _ _ _ _ (box_kept hz1 HND2.out (fun f => f))]; rfl
      clear hz1 eA0 eA1 eA2 eA3 eB0 eB1 eB2 eB3 eC0 eC1 eC2 eC3 eD0 eD1 eD2 eD3
      go_wp2_with fail
      refine (shape_same nm2 o2 ta2 gi2 z1).mono ?_
      rintro e z2 ⟨rfl, hz2⟩
      have HKz2 := hid_of (HKz1.out.trans hz2)
      clear hz2 fC0 fC1 fC2 fC3 fD0 fD1 fD2 fD3
      go_wp2
      go_ret
      exact ⟨rfl, HKz2.out⟩
end Go.Proofs.Ytindhkjcifghhaa

/-
  TRe: Re.
-/
import Derived.Test.YtcaadgcfceommaaGreatTRc
import Derived.Test.YtcaadgcfceommaaGreatTRd
namespace Go.Proofs.YtcaadgcfceommaaGreat
open Go.RowKit
set_option linter.unusedVariables false
set_option linter.unusedSimpArgs false
set_option maxRecDepth 100000

theorem rof_all (w : World) : ∀ k : Nat, k < 46 → Calls Tryz.prog 55 #[.int .i64 (k : Int)] w fun e w' => e = .returned (.tuple #[.agg (insL.getD k Sh.none).cells.toArray, .bool true]) ∧ Kept (fun _ => False) w w'
  | 0, _ => rof_0 w
  | 1, _ => rof_1 w
  | 2, _ => rof_2 w
  | 3, _ => rof_3 w
  | 4, _ => rof_4 w
  | 5, _ => rof_5 w
  | 6, _ => rof_6 w
  | 7, _ => rof_7 w
  | 8, _ => rof_8 w
  | 9, _ => rof_9 w
  | 10, _ => rof_10 w
  | 11, _ => rof_11 w
  | 12, _ => rof_12 w
  | 13, _ => rof_13 w
  | 14, _ => rof_14 w
  | 15, _ => rof_15 w
  | 16, _ => rof_16 w
  | 17, _ => rof_17 w
  | 18, _ => rof_18 w
  | 19, _ => rof_19 w
  | 20, _ => rof_20 w
  | 21, _ => rof_21 w
  | 22, _ => rof_22 w
  | 23, _ => rof_23 w
  | 24, _ => rof_24 w
  | 25, _ => rof_25 w
  | 26, _ => rof_26 w
  | 27, _ => rof_27 w
  | 28, _ => rof_28 w
  | 29, _ => rof_29 w
  | 30, _ => rof_30 w
  | 31, _ => rof_31 w
  | 32, _ => rof_32 w
  | 33, _ => rof_33 w
  | 34, _ => rof_34 w
  | 35, _ => rof_35 w
  | 36, _ => rof_36 w
  | 37, _ => rof_37 w
  | 38, _ => rof_38 w
  | 39, _ => rof_39 w
  | 40, _ => rof_40 w
  | 41, _ => rof_41 w
  | 42, _ => rof_42 w
  | 43, _ => rof_43 w
  | 44, _ => rof_44 w
  | 45, _ => rof_45 w
  | k + 46, h => absurd h (by omega)

set_option maxHeartbeats 4000000 in
theorem rof_out (n : Int) (w : World) (h : ¬ (0 ≤ n ∧ n < 46)) (hn0 : -9223372036854775808 ≤ n) (hn1 : n < 9223372036854775808) : Calls Tryz.prog 55 #[.int .i64 n] w fun e w' => e = .returned (.tuple #[.agg Sh.none.cells.toArray, .bool false]) ∧ Kept (fun _ => False) w w' := by
  have HX := hid_of (heap_alloc_new w (.cells Sh.none.cells.toArray 102))
  have HK := hid_of ((Kept.refl (fun _ => False) w).alloc (.cells Sh.none.cells.toArray 102))
  have hd : (decide (n < 0) || decide ((46 : Int) ≤ n)) = true := by
    rw [Bool.or_eq_true, decide_eq_true_iff, decide_eq_true_iff]
    omega
  clear h
  go_enter Tryz.func55, Tryz.ntmps55
  go_wp2
  all_goals
    refine bodyPost_ret (v := .tuple #[.agg Sh.none.cells.toArray, .bool false]) ?_ rfl ⟨rfl, HK.out⟩
    exact results_row_tmp (by rfl) _ _ ⟨w.heap.size, 0, none⟩ _ _ (by rfl) (by rfl) (run_loadVar_row _ w.heap.size 102 102 _ (0, 0) _ HX.out Tryz.underlying102 rfl size27)

theorem of_ref (n : Int) (w : World) (hn0 : -9223372036854775808 ≤ n) (hn1 : n < 9223372036854775808) :
    Calls Tryz.prog 55 #[.int .i64 n] w fun e w' => e = .returned (.tuple #[.agg (rowS insL n).cells.toArray, .bool (isRow insL n)]) ∧ Kept (fun _ => False) w w' := by
  by_cases h : 0 ≤ n ∧ n < 46
  · obtain ⟨k, rfl⟩ : ∃ k : Nat, n = k := ⟨n.toNat, by omega⟩
    have hk : k < 46 := by omega
    rw [(row_at (L := insL) hk).1, (row_at (L := insL) hk).2]
    exact rof_all w k hk
  · rw [show rowS insL n = Sh.none from if_neg h, show isRow insL n = false from decide_eq_false h]
    exact rof_out n w h hn0 hn1
/-- The reference's text of names. -/
def namesS : ByteArray := ⟨#[110, 111, 112, 32, 104, 97, 108, 116, 32, 97, 98, 111, 114, 116, 32, 110, 117, 109, 32, 112, 111, 112, 32, 99, 111, 112, 121, 32, 115, 119, 97, 112, 32, 103, 101, 116, 32, 115, 101, 116, 32, 108, 111, 97, 100, 32, 115, 116, 111, 114, 101, 32, 108, 111, 97, 100, 56, 32, 115, 116, 111, 114, 101, 56, 32, 115, 105, 122, 101, 32, 106, 117, 109, 112, 32, 122, 101, 114, 111, 32, 110, 111, 116, 122, 101, 114, 111, 32, 99, 97, 108, 108, 32, 114, 101, 116, 32, 115, 121, 115, 32, 97, 100, 100, 32, 115, 117, 98, 32, 109, 117, 108, 32, 100, 105, 118, 32, 114, 101, 109, 32, 97, 110, 100, 32, 111, 114, 32, 120, 111, 114, 32, 115, 104, 108, 32, 115, 104, 114, 32, 117, 115, 104, 114, 32, 101, 113, 32, 108, 116, 32, 117, 108, 116, 32, 110, 101, 103, 32, 110, 111, 116, 32, 102, 97, 100, 100, 32, 102, 115, 117, 98, 32, 102, 109, 117, 108, 32, 102, 100, 105, 118, 32, 102, 101, 113, 32, 102, 108, 116, 32, 102, 110, 101, 103, 32, 102, 114, 111, 111, 116, 32, 116, 111, 102, 32, 116, 111, 105, 32]⟩
def callsS : ByteArray := ⟨#[111, 112, 101, 110, 32, 114, 101, 97, 100, 32, 119, 114, 105, 116, 101, 32, 108, 105, 115, 116, 32, 99, 108, 111, 115, 101, 32]⟩
end Go.Proofs.YtcaadgcfceommaaGreat

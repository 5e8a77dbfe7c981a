/-
  retortlaw11's known by contract.
-/
import Derived.Test.YtindhkjcifghhabPd
namespace Go.Proofs.Ytindhkjcifghhab
open Go.RowKit Go.Deep
set_option linter.unusedVariables false
set_option linter.unusedSimpArgs false
set_option maxRecDepth 100000

/-- The code that is known, and its bytes. -/
def xC : List IN := [⟨3, -1⟩, ⟨18, 0⟩]
def xB : List Int := [3, 1, 18]
theorem xC_err : encE xC = 0 := by decide +kernel
theorem xC_enc : encB xC = xB := by kernel_rfl
theorem xB_dec : decD xB = .ok xC := by kernel_rfl
theorem str_xB : str xB = ⟨#[3, 1, 18]⟩ := by rfl

set_option maxHeartbeats 4000000 in
theorem known_any (w : World) : Calls Try.prog 4 #[] w fun e w' => e = .returned (.bool true) ∧ Kept (fun _ => False) w w' := by
  have hkA : Kept (fun _ => False) w (w.alloc (.cells #[.int .i64 3, .int .i64 (-1), .int .i64 18, .int .i64 0] 42)) := (Kept.refl _ _).alloc _
  have hbA := heap_alloc_new w (.cells #[.int .i64 3, .int .i64 (-1), .int .i64 18, .int .i64 0] 42)
  have hrA : RowI (w.alloc (.cells #[.int .i64 3, .int .i64 (-1), .int .i64 18, .int .i64 0] 42)) (.slice (some ⟨w.heap.size, 0, none⟩) 2 2) xC := .inr ⟨w.heap.size, 0, 2, rfl, fun i y hy j u hj => by
    rw [cell_block _ _ _ _ _ _ hbA]
    have hi : i < 2 := (List.getElem?_eq_some_iff.1 hy).1
    match i, hi with
    | 0, _ =>
      cases hy
      match j, hj with
      | 0, hj => exact hj
      | 1, hj => exact hj
    | 1, _ =>
      cases hy
      match j, hj with
      | 0, hj => exact hj
      | 1, hj => exact hj⟩
  have HEN := hid_of (encode_any _ xC _ hrA (fun y hy => by
    simp [xC] at hy
    rcases hy with rfl | rfl <;> exact ⟨by decide, by decide⟩) (by decide))
  have HRA := hid_of hrA
  have HKA := hid_of hkA
  clear hkA hbA hrA
  go_enter Try.func4, Try.ntmps4
  go_wp2_with fail
  generalize w.alloc _ = w1 at *
  refine HEN.out.mono ?_
  rintro e w2 ⟨hk2, he⟩
  rw [if_pos xC_err, xC_enc] at he
  obtain ⟨v2, rfl, ho2⟩ := he
  have hib2 : IsB w2 v2 xB := isB_own ho2
  obtain ⟨bo, bc, hv2⟩ := hib2.shape
  have hr2 := HRA.out.kept hk2 (fun _ _ f => f)
  have hkB : Kept (fun _ => False) w2 (w2.alloc (.cells #[.int .u8 3, .int .u8 1, .int .u8 18] 5)) := (Kept.refl _ _).alloc _
  have hbB := heap_alloc_new w2 (.cells #[.int .u8 3, .int .u8 1, .int .u8 18] 5)
  have HDC := hid_of (decode_x w2.heap.size (some ⟨w2.heap.size, 0, none⟩) 3 xB (w2.alloc (.cells #[.int .u8 3, .int .u8 1, .int .u8 18] 5)) (.inr ⟨0, 3, rfl, by decide, by decide, by unfold maxLen; decide, fun i hi => by
    rw [cell_block _ _ _ _ _ _ hbB, Nat.zero_add]
    have h3 : i < 3 := hi
    match i, h3 with
    | 0, _ => rfl
    | 1, _ => rfl
    | 2, _ => rfl⟩) (by simp) ⟨by decide, by decide⟩)
  have HK2 := hid_of ((HKA.out.trans hk2).trans hkB)
  have HI2 := hid_of (hib2.kept hkB (fun _ _ f => f))
  have HR2 := hid_of (hr2.kept hkB (fun _ _ f => f))
  subst hv2
  clear hk2 ho2 hib2 hr2 hkB hbB HEN HRA HKA
  go_wp2_with fail
  generalize w2.alloc _ = w3 at *
  refine HDC.out.mono ?_
  rintro e w4 ⟨hk4, he⟩
  rw [xB_dec] at he
  obtain ⟨⟨v4, rfl, ho4⟩, hok4⟩ := he
  obtain ⟨mo, mc, hv4⟩ := ownsRow_shape ho4
  have hcv := conv_str w4 _ xB (HI2.out.kept hk4 (fun _ _ f => f))
  rw [str_xB] at hcv
  have HSM := hid_of (same_any (.slice (some ⟨w.heap.size, 0, none⟩) 2 2) v4 xC xC w4 (HR2.out.kept hk4 (fun _ _ f => f)) (rowI_own ho4) (by decide) (by decide))
  rw [sameI_refl] at HSM
  have HK4 := hid_of (HK2.out.trans hk4)
  subst hv4
  clear hk4 ho4 hok4 HI2 HR2 HK2 HDC
  go_wp2_with fail
  refine HSM.out.mono ?_
  rintro e w5 ⟨rfl, n5, rfl⟩
  have HK5 := hid_of (kept_drewN HK4.out n5)
  clear HK4 HSM hcv
  go_wp2
  go_ret
  exact ⟨rfl, HK5.out⟩
end Go.Proofs.Ytindhkjcifghhab

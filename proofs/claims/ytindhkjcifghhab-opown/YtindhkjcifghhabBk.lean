/-
  OpBack: the walk.
-/
import Derived.Test.YtindhkjcifghhabBz
import Derived.Test.YtindhkjcifghhabWe
namespace Go.Proofs.Ytindhkjcifghhab
open Go.RowKit Go.Deep
set_option linter.unusedVariables false
set_option linter.unusedSimpArgs false
set_option maxRecDepth 100000

set_option maxHeartbeats 4000000 in
theorem known_pos (w : World) : Calls Try.prog 4 #[] w fun e w' => e = .returned (.bool true) ∧ Kept (fun _ => False) w w' ∧ w.heap.size < w'.heap.size := by
  have hkA : Kept (fun _ => False) w (w.alloc (.cells #[.int .i64 3, .int .i64 (-1), .int .i64 18, .int .i64 0] 42)) := (Kept.refl _ _).alloc _
  have hbA := heap_alloc_new w (.cells #[.int .i64 3, .int .i64 (-1), .int .i64 18, .int .i64 0] 42)
  have hrA : RowI (w.alloc (.cells #[.int .i64 3, .int .i64 (-1), .int .i64 18, .int .i64 0] 42)) (.slice (some ⟨w.heap.size, 0, none⟩) 2 2) xC := .inr ⟨w.heap.size, 0, 2, rfl, fun i y hy j u hj => by
    rw [cell_block _ _ _ _ _ _ hbA]
    have hi : i < 2 := (List.getElem?_eq_some_iff.1 hy).1
    match i, hi with
    | 0, _ =>
      cases hy
      match j, hj with
      | 0, hj => exact hj
      | 1, hj => exact hj
    | 1, _ =>
      cases hy
      match j, hj with
      | 0, hj => exact hj
      | 1, hj => exact hj⟩
  have HEN := hid_of (encode_any _ xC _ hrA (fun y hy => by
    simp [xC] at hy
    rcases hy with rfl | rfl <;> exact ⟨by decide, by decide⟩) (by decide))
  have HRA := hid_of hrA
  have HKA := hid_of hkA
  have HSZ : Hid (w.heap.size < (w.alloc (.cells #[.int .i64 3, .int .i64 (-1), .int .i64 18, .int .i64 0] 42)).heap.size) := by unfold Hid; simp
  clear hkA hbA hrA
  go_enter Try.func4, Try.ntmps4
  go_wp2_with fail
  generalize w.alloc _ = w1 at *
  refine HEN.out.mono ?_
  rintro e w2 ⟨hk2, he⟩
  have HSZ2 : Hid (w.heap.size < w2.heap.size) := Nat.lt_of_lt_of_le HSZ.out hk2.size
  rw [if_pos xC_err, xC_enc] at he
  obtain ⟨v2, rfl, ho2⟩ := he
  have hib2 : IsB w2 v2 xB := isB_own ho2
  obtain ⟨bo, bc, hv2⟩ := hib2.shape
  have hr2 := HRA.out.kept hk2 (fun _ _ f => f)
  have hkB : Kept (fun _ => False) w2 (w2.alloc (.cells #[.int .u8 3, .int .u8 1, .int .u8 18] 5)) := (Kept.refl _ _).alloc _
  have hbB := heap_alloc_new w2 (.cells #[.int .u8 3, .int .u8 1, .int .u8 18] 5)
  have HDC := hid_of (decode_x w2.heap.size (some ⟨w2.heap.size, 0, none⟩) 3 xB (w2.alloc (.cells #[.int .u8 3, .int .u8 1, .int .u8 18] 5)) (.inr ⟨0, 3, rfl, by decide, by decide, by unfold maxLen; decide, fun i hi => by
    rw [cell_block _ _ _ _ _ _ hbB, Nat.zero_add]
    have h3 : i < 3 := hi
    match i, h3 with
    | 0, _ => rfl
    | 1, _ => rfl
    | 2, _ => rfl⟩) (by simp) ⟨by decide, by decide⟩)
  have HK2 := hid_of ((HKA.out.trans hk2).trans hkB)
  have HI2 := hid_of (hib2.kept hkB (fun _ _ f => f))
  have HR2 := hid_of (hr2.kept hkB (fun _ _ f => f))
  subst hv2
  clear hk2 ho2 hib2 hr2 hkB hbB HEN HRA HKA
  go_wp2_with fail
  have HSZ3 : Hid (w2.heap.size ≤ (w2.alloc (.cells #[.int .u8 3, .int .u8 1, .int .u8 18] 5)).heap.size) := by unfold Hid; simp
  generalize w2.alloc _ = w3 at *
  refine HDC.out.mono ?_
  rintro e w4 ⟨hk4, he⟩
  have HSZ4 : Hid (w.heap.size < w4.heap.size) := Nat.lt_of_lt_of_le HSZ2.out (Nat.le_trans HSZ3.out hk4.size)
  rw [xB_dec] at he
  obtain ⟨⟨v4, rfl, ho4⟩, hok4⟩ := he
  obtain ⟨mo, mc, hv4⟩ := ownsRow_shape ho4
  have hcv := conv_str w4 _ xB (HI2.out.kept hk4 (fun _ _ f => f))
  rw [str_xB] at hcv
  have HSM := hid_of (same_any (.slice (some ⟨w.heap.size, 0, none⟩) 2 2) v4 xC xC w4 (HR2.out.kept hk4 (fun _ _ f => f)) (rowI_own ho4) (by decide) (by decide))
  rw [sameI_refl] at HSM
  have HK4 := hid_of (HK2.out.trans hk4)
  subst hv4
  clear hk4 ho4 hok4 HI2 HR2 HK2 HDC
  go_wp2_with fail
  refine HSM.out.mono ?_
  rintro e w5 ⟨rfl, n5, rfl⟩
  have HK5 := hid_of (kept_drewN HK4.out n5)
  clear HK4 HSM hcv
  go_wp2
  go_ret
  exact ⟨rfl, HK5.out, HSZ4.out⟩
/-- A row of bytes of its own, as a Reader's source. -/
theorem isR_own {w : World} {base d : Nat} {v : Value} {n : Nat} {xs : List Int} (h : w.ownsRow base 5 1 v n (xs.map (Value.int .u8))) (hd : d < w.heap.size) : ∃ g, g < w.heap.size ∧ IsR w g v xs := by
  have hn : xs.length = n := by have := h.1; simpa using this
  rcases h.2 with ⟨rfl, h0⟩ | ⟨g, cap, cur, rfl, hb, hg, hc, hm, hs, ht⟩
  · exact ⟨d, hd, .inl ⟨List.length_eq_zero_iff.1 (by omega), none, .inl rfl, rfl⟩⟩
  · refine ⟨g, (Array.getElem?_eq_some_iff.1 hg).1, ?_⟩
    by_cases h0 : cap = 0
    · subst h0
      have : n = 0 := by omega
      subst this
      exact .inl ⟨List.length_eq_zero_iff.1 hn, _, .inr ⟨0, rfl⟩, rfl⟩
    · refine .inr ⟨0, cap, by rw [hn], by omega, by omega, hm, fun i hi => ?_⟩
      have := h.cells (g := g) rfl i (.int .u8 (xs.getD i 0)) (by simp [List.getD, hi])
      rw [Addr.add_lit] at this
      exact this
/-- Bytes as they are handed in, as a Reader's source. -/
def SrcR (w : World) (v : Value) (xs : List Int) : Prop := v = .slice none 0 0 ∧ xs = [] ∨ ∃ g, g < w.heap.size ∧ IsR w g v xs ∧ v.ownBlock = some g
theorem SrcR.at {w w' : World} {v : Value} {xs : List Int} (h : SrcR w v xs) (hk : Kept (fun _ => False) w w') (h0 : 0 < w'.heap.size) : ∃ g, g < w'.heap.size ∧ IsR w' g v xs := by
  rcases h with ⟨rfl, rfl⟩ | ⟨g, h1, h2, _⟩
  · exact ⟨0, h0, .inl ⟨rfl, none, .inl rfl, rfl⟩⟩
  · exact ⟨g, Nat.lt_of_lt_of_le h1 hk.size, h2.kept hk (fun f => f)⟩
/-- Instructions behind instructions of its own. -/
theorem app_rows (W : World) (v : Value) (base : Nat) (l : List IN) (ao : Option Addr) (c : Nat) (ys : List IN) (hown : W.ownsRow base 42 2 v l.length (icells l)) (hr : RowI W (.slice ao ys.length c) ys) (hb : base ≤ W.heap.size) (hsz : (l.length + ys.length) * 16 ≤ 140737488355328) (ha : ao = none → ys.length = 0) :
    ∃ (o2 : Option Addr) (c2 : Nat) (w' : World), (Builtin.append_ #[22, 22] 22 #[v, .slice ao ys.length c]).run Try.prog W = .ok (.slice o2 (l ++ ys).length c2) w' ∧ w'.ownsRow base 42 2 (.slice o2 (l ++ ys).length c2) (l ++ ys).length (icells (l ++ ys)) ∧ Kept (fun k => v.ownBlock = some k) W w' := by
  obtain ⟨i0, hi, hz0, hz1, hz2⟩ := info_parts Try.info42
  cases ao with
  | none =>
    have h0 := ha rfl
    have e : ys = [] := List.length_eq_zero_iff.1 h0
    subst e
    have hrun : (Builtin.append_ #[22, 22] 22 #[v, .slice none 0 c]).run Try.prog W = .ok v W := by
      rcases hown.2 with ⟨rfl, h1⟩ | ⟨g, cap, cur, rfl, hb, hg, hn, hm, hs, ht⟩
      · simp [Builtin.append_, run_underlying Try.underlying22, sizeOf, typeInfo, hi, Builtin.lenOf, Builtin.firstCells]
      · have h1 : l.length ≤ cap := hn
        simp [Builtin.append_, run_underlying Try.underlying22, sizeOf, typeInfo, hi, Builtin.lenOf, Builtin.firstCells, h1, storeCells]
    obtain ⟨o2, c2, rfl⟩ := ownsRow_shape hown
    rw [List.append_nil]
    exact ⟨o2, c2, W, hrun, hown, Kept.refl _ _⟩
  | some p =>
    obtain ⟨v', w', h1, h2, h3, _⟩ := run_append_own (P := Try.prog) W base 22 22 42 i0 _ 2 16 Try.underlying22 hi hz0 hz1 hz2 rfl (by decide) v l.length (icells l) hown p ys.length c (icells ys) (by rw [icells_length]; omega) (rowI_cells hr) (icells_one ys) (by unfold maxLen; omega) (by omega) hb
    rw [← icells_append] at h2
    obtain ⟨o2, c2, rfl⟩ := ownsRow_shape h2
    rw [List.length_append]
    exact ⟨o2, c2, w', h1, h2, (Kept.refl (fun k => v.ownBlock = some k) W).grown h3 (fun k hk => .inr hk)⟩
theorem own_none (w : World) (base : Nat) (hb : base ≤ w.heap.size) : (w.alloc (.cells #[] 42)).ownsRow base 42 2 (.slice (some ⟨w.heap.size, 0, none⟩) 0 0) 0 (icells []) :=
  ⟨rfl, .inr ⟨w.heap.size, 0, #[], rfl, hb, heap_alloc_new _ _, Nat.le_refl _, by unfold maxLen; omega, rfl, rfl⟩⟩

end Go.Proofs.Ytindhkjcifghhab

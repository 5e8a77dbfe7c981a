/-
  letters by contract; OpWords.
-/
import Derived.Test.YtindhkjcifghhaaOc
namespace Go.Proofs.Ytindhkjcifghhaa
open Go.RowKit
set_option linter.unusedVariables false
set_option linter.unusedSimpArgs false
set_option maxRecDepth 100000

/-- Small letters and digits, a letter first. -/
def Letters (s : ByteArray) : Prop := 0 < s.size ∧ s.size ≤ 100 ∧ ∀ k (h : k < s.size), (97 ≤ (s[k]'h).toNat ∧ (s[k]'h).toNat ≤ 122) ∨ (k ≠ 0 ∧ 48 ≤ (s[k]'h).toNat ∧ (s[k]'h).toNat ≤ 57)

set_option maxHeartbeats 4000000 in
theorem letters_any (s : ByteArray) (w : World) (hs : Letters s) :
    Calls Try.prog 29 #[.string s] w fun e w' => e = .returned (.bool true) ∧ w' = w := by
  obtain ⟨h0, hl, hb⟩ := hs
  have HB := hid_of hb
  clear hb
  go_enter Try.func29, Try.ntmps29
  go_wp2
  go_loopw [3] (fun i wr => ∃ k : Nat, k ≤ s.size ∧ i = .int .i64 (k : Int) ∧ wr = w) (fun i _ => s.size - (intOf i).toNat)
  case atStart => exact ⟨0, by omega, rfl, rfl⟩
  case round =>
    obtain ⟨k, hk, rfl, rfl⟩ := hrel
    by_cases hlt : k < s.size
    · rcases HB.out k hlt with ⟨ha, hc⟩ | ⟨hk0, ha, hc⟩
      · have h1 : (97 : Int) ≤ ((s[k]'hlt).toNat : Int) := by omega
        have h2 : ((s[k]'hlt).toNat : Int) ≤ 122 := by omega
        clear HB ha hc
        go_wp2
        go_roundw
        case rel => exact ⟨k + 1, by omega, by go_num, trivial⟩
        case measure => simp [intOf]; omega
      · have h1 : ((s[k]'hlt).toNat : Int) < 97 := by omega
        have h2 : (48 : Int) ≤ ((s[k]'hlt).toNat : Int) := by omega
        have h3 : ((s[k]'hlt).toNat : Int) ≤ 57 := by omega
        have h4 : ((k : Int) == 0) = false := by simp; omega
        clear HB ha hc
        go_wp2
        go_roundw
        case rel => exact ⟨k + 1, by omega, by go_num, trivial⟩
        case measure => simp [intOf]; omega
    · obtain rfl : k = s.size := by omega
      have h5 : (0 : Int) < (s.size : Int) := by omega
      go_wp2
      go_ret
      exact ⟨rfl, rfl⟩

theorem ins_letters : ∀ i, i < 46 → Letters (insL.getD i Sh.none).nm := by
  intro i hi
  unfold Letters
  revert i
  decide +kernel
theorem sys_letters : ∀ i, i < 5 → Letters (sysL.getD i Sh.none).nm := by
  intro i hi
  unfold Letters
  revert i
  decide +kernel

theorem ins_ix : ∀ i, i < 46 → nameIx insL (insL.getD i Sh.none).nm = i := by
  intro i hi
  revert i
  decide +kernel
theorem sys_ix : ∀ i, i < 5 → nameIx sysL (sysL.getD i Sh.none).nm = i := by
  intro i hi
  revert i
  decide +kernel
theorem ins_named (i : Nat) (h : i < 46) : namedV insL (insL.getD i Sh.none).nm = .tuple #[.int .i64 (i : Nat), .bool true] := by
  unfold namedV
  rw [ins_ix i h, if_pos (show i < insL.length from h)]
theorem sys_named (i : Nat) (h : i < 5) : namedV sysL (sysL.getD i Sh.none).nm = .tuple #[.int .i64 (i : Nat), .bool true] := by
  unfold namedV
  rw [sys_ix i h, if_pos (show i < sysL.length from h)]
theorem row_at {L : List Sh} {k : Nat} (h : k < L.length) : rowS L (k : Int) = L.getD k Sh.none ∧ isRow L (k : Int) = true := by
  have h' : 0 ≤ (k : Int) ∧ (k : Int) < (L.length : Int) := by omega
  unfold rowS isRow
  rw [if_pos h', decide_eq_true h']
  exact ⟨by simp, rfl⟩
theorem ix_unlike {L : List Sh} (hx : ∀ i, i < L.length → nameIx L (L.getD i Sh.none).nm = i) {i j : Nat} (hi : i < L.length) (hj : j < i) : ((L.getD i Sh.none).nm.toList == (L.getD j Sh.none).nm.toList) = false := by
  by_cases e : ((L.getD i Sh.none).nm.toList == (L.getD j Sh.none).nm.toList) = true
  · have h1 := hx i hi
    rw [txt_eq e, hx j (by omega)] at h1
    omega
  · simpa using e
theorem sh_lit (nm : ByteArray) (o t g : Int) : (Sh.mk nm o t g).cells.toArray = #[.string nm, .int .i64 o, .int .i64 t, .int .i64 g] := rfl

set_option maxHeartbeats 16000000 in
theorem words_walk (w : World) : Calls Try.prog 8 #[] w fun e w' => e = .returned (.bool true) ∧ Kept (fun _ => False) w w' := by
  go_enter Try.func8, Try.ntmps8
  go_wp2
  go_loopw [1] (fun i wr => ∃ k : Nat, k ≤ 46 ∧ i = .int .i64 (k : Int) ∧ Kept (fun _ => False) w wr) (fun i _ => 46 - (intOf i).toNat)
  case atStart => exact ⟨0, by omega, rfl, Kept.refl _ _⟩
  case round =>
    obtain ⟨k, hk, rfl, hKe⟩ := hrel
    by_cases hlt : k < 46
    · have hki : (k : Int) < 46 := by omega
      have HK0 := hid_of hKe
      clear hKe
      go_wp2_with fail
      refine (of_any (k : Int) wr (by omega) (by omega)).mono ?_
      rintro e w1 ⟨rfl, hk1⟩
      have HK1 := hid_of (HK0.out.trans hk1)
      clear hk1 HK0
      have HNM := hid_of (ins_named k hlt)
      have HLT := hid_of (ins_letters k hlt)
      have HUN : Hid (∀ j, j < k → ((insL.getD k Sh.none).nm.toList == (insL.getD j Sh.none).nm.toList) = false) := fun j hj => ix_unlike (L := insL) (show ∀ i, i < insL.length → _ from ins_ix) (show k < insL.length from hlt) hj
      rw [(row_at (L := insL) hlt).1, (row_at (L := insL) hlt).2]
      generalize insL.getD k Sh.none = x at *
      obtain ⟨nm, o, ta, gi⟩ := x
      rw [sh_lit]
      have hK2 := HK1.out.alloc (.cells #[.string nm, .int .i64 o, .int .i64 ta, .int .i64 gi] 24)
      have hB2 := heap_alloc_new w1 (.cells #[.string nm, .int .i64 o, .int .i64 ta, .int .i64 gi] 24)
      clear HK1
      go_wp2_with fail
      generalize w1.alloc _ = w2 at *
      generalize w1.heap.size = B at *
      refine (byname_any nm w2).mono ?_
      rintro e w3 ⟨rfl, hk3⟩
      rw [HNM.out]
      have HK3 := hid_of (hK2.trans hk3)
      have hB3 := box_kept hk3 hB2 (fun f => f)
      have hc3 : w3.cell? ⟨B, 0, none⟩ = some (.string nm) := by rw [cell_block _ _ _ _ _ _ hB3]; rfl
      have HC3 := hid_of hc3
      clear hK2 hk3 hB2 hB3 HNM
      go_wp2_with fail
      refine (letters_any nm w3 HLT.out).mono ?_
      rintro e w4 ⟨rfl, rfl⟩
      clear hc3
      go_wp2
      go_loopw [6] (fun i wq => ∃ m : Nat, m ≤ k ∧ i = .int .i64 (m : Int) ∧ Kept (fun _ => False) w wq ∧ wq.cell? ⟨B, 0, none⟩ = some (.string nm)) (fun i _ => k - (intOf i).toNat)
      case atStart => exact ⟨0, by omega, rfl, HK3.out, HC3.out⟩
      case round =>
        obtain ⟨m, hm, rfl, hKm, hCm⟩ := hrel
        by_cases hlm : m < k
        · have hmi : (m : Int) < (k : Int) := by omega
          have HK5 := hid_of hKm
          have HC5 := hid_of hCm
          clear hKm hCm HK3 HC3
          go_wp2_with fail
          refine (of_any (m : Int) _ (by omega) (by omega)).mono ?_
          rintro e w6 ⟨rfl, hk6⟩
          have HK6 := hid_of (HK5.out.trans hk6)
          have hc6 := hk6.cell HC5.out (fun f => f)
          have hu := HUN.out m hlm
          clear hk6 HK5 HC5
          rw [(row_at (L := insL) (show m < 46 by omega)).1, (row_at (L := insL) (show m < 46 by omega)).2]
          generalize insL.getD m Sh.none = y at *
          obtain ⟨nm2, o2, ta2, gi2⟩ := y
          rw [sh_lit]
          have HK7 := hid_of (HK6.out.alloc (.cells #[.string nm2, .int .i64 o2, .int .i64 ta2, .int .i64 gi2] 24))
          have HC7 := hid_of (((Kept.refl (fun _ => False) w6).alloc (.cells #[.string nm2, .int .i64 o2, .int .i64 ta2, .int .i64 gi2] 24)).cell hc6 (fun f => f))
          have hc7 := HC7.out
          clear HK6
          go_wp2
          go_roundw
          case rel => exact ⟨m + 1, by omega, by go_num, HK7.out, HC7.out⟩
          case measure => simp [intOf]; omega
        · obtain rfl : m = k := by omega
          have HK5 := hid_of hKm
          clear hKm hCm HK3 HC3
          go_wp2
          go_roundw
          case rel => exact ⟨m + 1, by omega, by go_num, HK5.out⟩
          case measure => simp [intOf]; omega
    · have hki : (46 : Int) ≤ (k : Int) := by omega
      have HK9 := hid_of hKe
      clear hKe hk hlt
      go_wp2
      clear hki
      go_loopw [9] (fun i wr => ∃ k : Nat, k ≤ 5 ∧ i = .int .i64 (k : Int) ∧ Kept (fun _ => False) w wr) (fun i _ => 5 - (intOf i).toNat)
      case atStart => exact ⟨0, by omega, rfl, HK9.out⟩
      case round =>
        obtain ⟨k, hk, rfl, hKe⟩ := hrel
        by_cases hlt : k < 5
        · have hki : (k : Int) < 5 := by omega
          have HK0 := hid_of hKe
          clear hKe
          go_wp2_with fail
          refine (sysof_any (k : Int) wr (by omega) (by omega)).mono ?_
          rintro e w1 ⟨rfl, hk1⟩
          have HK1 := hid_of (HK0.out.trans hk1)
          clear hk1 HK0
          have HNM := hid_of (sys_named k hlt)
          have HLT := hid_of (sys_letters k hlt)
          have HUN : Hid (∀ j, j < k → ((sysL.getD k Sh.none).nm.toList == (sysL.getD j Sh.none).nm.toList) = false) := fun j hj => ix_unlike (L := sysL) (show ∀ i, i < sysL.length → _ from sys_ix) (show k < sysL.length from hlt) hj
          rw [(row_at (L := sysL) hlt).1, (row_at (L := sysL) hlt).2]
          generalize sysL.getD k Sh.none = x at *
          obtain ⟨nm, o, ta, gi⟩ := x
          rw [sh_lit]
          have hK2 := HK1.out.alloc (.cells #[.string nm, .int .i64 o, .int .i64 ta, .int .i64 gi] 24)
          have hB2 := heap_alloc_new w1 (.cells #[.string nm, .int .i64 o, .int .i64 ta, .int .i64 gi] 24)
          clear HK1
          go_wp2_with fail
          generalize w1.alloc _ = w2 at *
          generalize w1.heap.size = B at *
          refine (sysname_any nm w2).mono ?_
          rintro e w3 ⟨rfl, hk3⟩
          rw [HNM.out]
          have HK3 := hid_of (hK2.trans hk3)
          have hB3 := box_kept hk3 hB2 (fun f => f)
          have hc3 : w3.cell? ⟨B, 0, none⟩ = some (.string nm) := by rw [cell_block _ _ _ _ _ _ hB3]; rfl
          have HC3 := hid_of hc3
          clear hK2 hk3 hB2 hB3 HNM
          go_wp2_with fail
          refine (letters_any nm w3 HLT.out).mono ?_
          rintro e w4 ⟨rfl, rfl⟩
          clear hc3
          go_wp2
          go_loopw [14] (fun i wq => ∃ m : Nat, m ≤ k ∧ i = .int .i64 (m : Int) ∧ Kept (fun _ => False) w wq ∧ wq.cell? ⟨B, 0, none⟩ = some (.string nm)) (fun i _ => k - (intOf i).toNat)
          case atStart => exact ⟨0, by omega, rfl, HK3.out, HC3.out⟩
          case round =>
            obtain ⟨m, hm, rfl, hKm, hCm⟩ := hrel
            by_cases hlm : m < k
            · have hmi : (m : Int) < (k : Int) := by omega
              have HK5 := hid_of hKm
              have HC5 := hid_of hCm
              clear hKm hCm HK3 HC3
              go_wp2_with fail
              refine (sysof_any (m : Int) _ (by omega) (by omega)).mono ?_
              rintro e w6 ⟨rfl, hk6⟩
              have HK6 := hid_of (HK5.out.trans hk6)
              have hc6 := hk6.cell HC5.out (fun f => f)
              have hu := HUN.out m hlm
              clear hk6 HK5 HC5
              rw [(row_at (L := sysL) (show m < 5 by omega)).1, (row_at (L := sysL) (show m < 5 by omega)).2]
              generalize sysL.getD m Sh.none = y at *
              obtain ⟨nm2, o2, ta2, gi2⟩ := y
              rw [sh_lit]
              have HK7 := hid_of (HK6.out.alloc (.cells #[.string nm2, .int .i64 o2, .int .i64 ta2, .int .i64 gi2] 24))
              have HC7 := hid_of (((Kept.refl (fun _ => False) w6).alloc (.cells #[.string nm2, .int .i64 o2, .int .i64 ta2, .int .i64 gi2] 24)).cell hc6 (fun f => f))
              have hc7 := HC7.out
              clear HK6
              go_wp2
              go_roundw
              case rel => exact ⟨m + 1, by omega, by go_num, HK7.out, HC7.out⟩
              case measure => simp [intOf]; omega
            · obtain rfl : m = k := by omega
              have HK5 := hid_of hKm
              clear hKm hCm HK3 HC3
              go_wp2
              go_roundw
              case rel => exact ⟨m + 1, by omega, by go_num, HK5.out⟩
              case measure => simp [intOf]; omega
        · have hki : (5 : Int) ≤ (k : Int) := by omega
          have HK9 := hid_of hKe
          clear hKe hk hlt
          go_wp2
          clear hki
          go_ret
          exact ⟨rfl, HK9.out⟩
end Go.Proofs.Ytindhkjcifghhaa

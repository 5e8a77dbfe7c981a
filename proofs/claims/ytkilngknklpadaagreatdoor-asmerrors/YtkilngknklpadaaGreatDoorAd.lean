/-
  A line is cut into its pieces.
-/
import Derived.Test.YtkilngknklpadaaGreatDoorAc
namespace Go.Proofs.YtkilngknklpadaaGreatDoor
open Go.RowKit
set_option linter.unusedVariables false
set_option linter.unusedSimpArgs false
set_option maxRecDepth 100000

variable {I : Nat × ByteArray × Nat}
set_option maxHeartbeats 4000000 in
theorem begin_bl (c : Nat) (w wr : World) (ps : List Pc) (st : Int) (un : List Int) (h : Cu I w wr c ps st un) : Calls Tryz.prog 82 #[.pointer (some ⟨c, 0, none⟩), .int .i32 32] wr fun e w' => e = .returned (.bool true) ∧ Cu I w w' c ps 0 un := by
  have H := hid_of (h.setS 0)
  obtain ⟨pv, uv, hb, hp, hu⟩ := h.ex
  obtain ⟨c0, c1, c2, c3, f0, f1, f2, f3⟩ := look4 hb
  clear h hb hp hu
  go_enter Tryz.func82, Tryz.ntmps82
  go_wp2
  go_ret
  exact ⟨rfl, H.out⟩
set_option maxHeartbeats 4000000 in
theorem begin_let (r : Int) (c : Nat) (w wr : World) (ps : List Pc) (un : List Int) (h : Cu I w wr c ps 0 un) (h1 : 97 ≤ r) (h2 : r ≤ 122) (hl : un.length ≤ 900000) : Calls Tryz.prog 82 #[.pointer (some ⟨c, 0, none⟩), .int .i32 r] wr fun e w' => e = .returned (.bool true) ∧ Cu I w w' c ps 2 (un ++ [r]) := by
  have H := hid_of (h.setS 2)
  obtain ⟨pv, uv, hb, hp, hu⟩ := h.ex
  obtain ⟨c0, c1, c2, c3, f0, f1, f2, f3⟩ := look4 hb
  have HG := hid_of (grow_any c r w _ ps 2 un (h.setS 2) (by omega) (by omega) hl)
  have e9 : (r == 9) = false := by simp; omega
  have e13 : (r == 13) = false := by simp; omega
  have e32 : (r == 32) = false := by simp; omega
  have e58 : (r == 58) = false := by simp; omega
  have e34 : (r == 34) = false := by simp; omega
  clear h hb hp hu hl
  go_enter Tryz.func82, Tryz.ntmps82
  go_wp2_with fail
  refine (letter_yes r wr h1 h2).mono ?_
  rintro e w1 ⟨rfl, hw⟩
  have hw := hw.symm
  subst hw
  go_wp2_with fail
  refine HG.out.mono ?_
  rintro e w1 ⟨⟨v, rfl⟩, h2⟩
  have H2 := hid_of h2
  clear h2
  go_wp2
  go_ret
  exact ⟨rfl, H2.out⟩
set_option maxHeartbeats 4000000 in
theorem begin_dig (r : Int) (c : Nat) (w wr : World) (ps : List Pc) (un : List Int) (h : Cu I w wr c ps 0 un) (h1 : 48 ≤ r) (h2 : r ≤ 57) (hl : un.length ≤ 900000) : Calls Tryz.prog 82 #[.pointer (some ⟨c, 0, none⟩), .int .i32 r] wr fun e w' => e = .returned (.bool true) ∧ Cu I w w' c ps 3 (un ++ [r]) := by
  have H := hid_of (h.setS 3)
  obtain ⟨pv, uv, hb, hp, hu⟩ := h.ex
  obtain ⟨c0, c1, c2, c3, f0, f1, f2, f3⟩ := look4 hb
  have HG := hid_of (grow_any c r w _ ps 3 un (h.setS 3) (by omega) (by omega) hl)
  have e9 : (r == 9) = false := by simp; omega
  have e13 : (r == 13) = false := by simp; omega
  have e32 : (r == 32) = false := by simp; omega
  have e58 : (r == 58) = false := by simp; omega
  have e34 : (r == 34) = false := by simp; omega
  clear h hb hp hu hl
  go_enter Tryz.func82, Tryz.ntmps82
  go_wp2_with fail
  refine (letter_dig r wr h1 h2).mono ?_
  rintro e w1 ⟨rfl, hw⟩
  have hw := hw.symm
  subst hw
  go_wp2_with fail
  refine (digit_yes r wr h1 h2).mono ?_
  rintro e w1 ⟨rfl, hw⟩
  have hw := hw.symm
  subst hw
  go_wp2_with fail
  refine HG.out.mono ?_
  rintro e w1 ⟨⟨v, rfl⟩, h2⟩
  have H2 := hid_of h2
  clear h2
  go_wp2
  go_ret
  exact ⟨rfl, H2.out⟩
set_option maxHeartbeats 4000000 in
theorem end_word (c : Nat) (w wr : World) (ps : List Pc) (un : List Int) (h : Cu I w wr c ps 2 un) (hl : ps.length ≤ 90000) : Calls Tryz.prog 53 #[.pointer (some ⟨c, 0, none⟩)] wr fun e w' => e = .returned (.bool true) ∧ Cu I w w' c (ps ++ [⟨0, str un, 0⟩]) 1 [] := by
  have HC := hid_of (close_any c 0 (str un) 0 w wr ps 2 un h hl)
  obtain ⟨pv, uv, hb, hp, hu⟩ := h.ex
  obtain ⟨c0, c1, c2, c3, f0, f1, f2, f3⟩ := look4 hb
  have hcv := conv_str wr uv un (isB_own hu)
  obtain ⟨ua, uc, hv⟩ := ownsRow_shape hu
  obtain ⟨n, hn⟩ : ∃ n, n = un.length := ⟨_, rfl⟩
  rw [← hn] at hv
  subst hv
  clear h hb hp hu hl hn
  go_enter Tryz.func53, Tryz.ntmps53
  go_wp2_with fail
  refine HC.out.mono ?_
  rintro e w1 ⟨⟨v, rfl⟩, h2⟩
  have H2 := hid_of h2
  obtain ⟨pv', uv', hb, hp, hu⟩ := h2.ex
  clear c0 c1 c2 c3 f0 f1 f2 f3
  obtain ⟨c0, c1, c2, c3, f0, f1, f2, f3⟩ := look4 hb
  clear h2 hb hp hu hcv HC
  go_wp2
  go_ret
  exact ⟨rfl, H2.out⟩
set_option maxHeartbeats 8000000 in
theorem end_num (b : UInt8) (hb0 : b = 48 ∨ b = 49) (c : Nat) (w wr : World) (ps : List Pc) (h : Cu I w wr c ps 3 [(b.toNat : Int)]) (hG : Gl wr) (hl : ps.length ≤ 90000) : Calls Tryz.prog 53 #[.pointer (some ⟨c, 0, none⟩)] wr fun e w' => e = .returned (.bool true) ∧ Cu I w w' c (ps ++ [⟨1, ⟨#[]⟩, (b.toNat : Int) - 48⟩]) 1 [] := by
  have HN := hid_of (num_dig b hb0 wr hG)
  have HH := hid_of h
  obtain ⟨pv, uv, hb, hp, hu⟩ := h.ex
  obtain ⟨c0, c1, c2, c3, f0, f1, f2, f3⟩ := look4 hb
  have hcv := conv_str wr uv _ (isB_own hu)
  have hstr : str [(b.toNat : Int)] = ⟨#[b]⟩ := by rcases hb0 with rfl | rfl <;> rfl
  rw [hstr] at hcv
  obtain ⟨ua, uc, hv⟩ := ownsRow_shape hu
  obtain ⟨n, hn⟩ : ∃ n, n = [(b.toNat : Int)].length := ⟨_, rfl⟩
  rw [← hn] at hv
  subst hv
  have HL := hid_of hl
  obtain ⟨bd, hbd⟩ : ∃ z, z = (b.toNat : Int) - 48 := ⟨_, rfl⟩
  rw [← hbd] at HN ⊢
  clear h hb hp hu hl hn hstr hb0 hG hbd
  go_enter Tryz.func53, Tryz.ntmps53
  go_wp2_with fail
  refine HN.out.mono ?_
  rintro e w1 ⟨rfl, hk1⟩
  have HH1 := hid_of (HH.out.same hk1)
  clear HN HH hk1 hcv c0 c1 c2 c3 f0 f1 f2 f3
  have hka : Kept (fun _ => False) w1 (w1.alloc (.cells #[.int .i64 1, .string ⟨#[]⟩, .int .i64 bd, .bool false] 82)) := (Kept.refl _ _).alloc _
  have hba := heap_alloc_new w1 (.cells #[.int .i64 1, .string ⟨#[]⟩, .int .i64 bd, .bool false] 82)
  have HH2 := hid_of (HH1.out.same hka)
  have HBA := hid_of hba
  clear hka hba HH1
  go_upto_region 6 with fail
  generalize w1.alloc (.cells #[.int .i64 1, .string ⟨#[]⟩, .int .i64 bd, .bool false] 82) = w2 at *
  generalize w1.heap.size = g at *
  obtain ⟨x0, x1, x2, x3, _⟩ := look4 HBA.out
  have HC := hid_of (close_any c 1 ⟨#[]⟩ bd w w2 ps 3 _ HH2.out HL.out)
  clear HH2 HBA
  go_wp2_with fail
  refine HC.out.mono ?_
  rintro e w3 ⟨⟨v, rfl⟩, h2⟩
  have H2 := hid_of h2
  clear h2 HC x0 x1 x2 x3
  go_wp2
  go_ret
  exact ⟨rfl, H2.out⟩
set_option maxHeartbeats 4000000 in
theorem take_let0 (r : Int) (c : Nat) (w wr : World) (ps : List Pc) (un : List Int) (h : Cu I w wr c ps 0 un) (h1 : 97 ≤ r) (h2 : r ≤ 122) (hl : un.length ≤ 900000) : Calls Tryz.prog 52 #[.pointer (some ⟨c, 0, none⟩), .int .i32 r] wr fun e w' => e = .returned (.bool true) ∧ Cu I w w' c ps 2 (un ++ [r]) := by
  have HH := hid_of h
  obtain ⟨pv, uv, hb, hp, hu⟩ := h.ex
  obtain ⟨c0, c1, c2, c3, f0, f1, f2, f3⟩ := look4 hb
  clear h hb hp hu
  go_enter Tryz.func52, Tryz.ntmps52
  go_wp2_with fail
  refine (begin_let r c w wr ps un HH.out h1 h2 hl).mono ?_
  rintro e W0 ⟨rfl, h2⟩
  clear HH
  have HH := hid_of h2
  clear h2
  go_wp2
  go_ret
  exact ⟨rfl, HH.out⟩
set_option maxHeartbeats 4000000 in
theorem take_dig0 (r : Int) (c : Nat) (w wr : World) (ps : List Pc) (un : List Int) (h : Cu I w wr c ps 0 un) (h1 : 48 ≤ r) (h2 : r ≤ 57) (hl : un.length ≤ 900000) : Calls Tryz.prog 52 #[.pointer (some ⟨c, 0, none⟩), .int .i32 r] wr fun e w' => e = .returned (.bool true) ∧ Cu I w w' c ps 3 (un ++ [r]) := by
  have HH := hid_of h
  obtain ⟨pv, uv, hb, hp, hu⟩ := h.ex
  obtain ⟨c0, c1, c2, c3, f0, f1, f2, f3⟩ := look4 hb
  clear h hb hp hu
  go_enter Tryz.func52, Tryz.ntmps52
  go_wp2_with fail
  refine (begin_dig r c w wr ps un HH.out h1 h2 hl).mono ?_
  rintro e W0 ⟨rfl, h2⟩
  clear HH
  have HH := hid_of h2
  clear h2
  go_wp2
  go_ret
  exact ⟨rfl, HH.out⟩
set_option maxHeartbeats 4000000 in
theorem take_let2 (r : Int) (c : Nat) (w wr : World) (ps : List Pc) (un : List Int) (h : Cu I w wr c ps 2 un) (h1 : 97 ≤ r) (h2 : r ≤ 122) (hl : un.length ≤ 900000) : Calls Tryz.prog 52 #[.pointer (some ⟨c, 0, none⟩), .int .i32 r] wr fun e w' => e = .returned (.bool true) ∧ Cu I w w' c ps 2 (un ++ [r]) := by
  have HH := hid_of h
  obtain ⟨pv, uv, hb, hp, hu⟩ := h.ex
  obtain ⟨c0, c1, c2, c3, f0, f1, f2, f3⟩ := look4 hb
  clear h hb hp hu
  go_enter Tryz.func52, Tryz.ntmps52
  go_wp2_with fail
  refine (goes_let r wr h1 h2).mono ?_
  rintro e w1 ⟨rfl, hw⟩
  have hw := hw.symm
  subst hw
  go_wp2_with fail
  refine (grow_any c r w wr ps 2 un HH.out (by omega) (by omega) hl).mono ?_
  rintro e W1 ⟨⟨v, rfl⟩, h2⟩
  clear HH
  have HH := hid_of h2
  clear h2
  go_wp2
  go_ret
  exact ⟨rfl, HH.out⟩
set_option maxHeartbeats 4000000 in
theorem take_bl2 (c : Nat) (w wr : World) (ps : List Pc) (un : List Int) (h : Cu I w wr c ps 2 un) (hl : ps.length ≤ 90000) : Calls Tryz.prog 52 #[.pointer (some ⟨c, 0, none⟩), .int .i32 32] wr fun e w' => e = .returned (.bool true) ∧ Cu I w w' c (ps ++ [⟨0, str un, 0⟩]) 0 [] := by
  have HH := hid_of h
  obtain ⟨pv, uv, hb, hp, hu⟩ := h.ex
  obtain ⟨c0, c1, c2, c3, f0, f1, f2, f3⟩ := look4 hb
  clear h hb hp hu
  go_enter Tryz.func52, Tryz.ntmps52
  go_wp2_with fail
  refine (goes_bl wr).mono ?_
  rintro e w1 ⟨rfl, hw⟩
  have hw := hw.symm
  subst hw
  go_wp2_with fail
  refine (end_word c w wr ps un HH.out hl).mono ?_
  rintro e W1 ⟨rfl, h2⟩
  clear HH
  have HH := hid_of h2
  clear h2
  go_wp2_with fail
  refine (begin_bl c w W1 _ 1 [] HH.out).mono ?_
  rintro e W2 ⟨rfl, h2⟩
  clear HH
  have HH := hid_of h2
  clear h2
  go_wp2
  go_ret
  exact ⟨rfl, HH.out⟩
set_option maxHeartbeats 4000000 in
theorem take_bl3 (b : UInt8) (hb0 : b = 48 ∨ b = 49) (c : Nat) (w wr : World) (ps : List Pc) (un : List Int) (h : Cu I w wr c ps 3 [(b.toNat : Int)]) (hG : Gl wr) (hl : ps.length ≤ 90000) : Calls Tryz.prog 52 #[.pointer (some ⟨c, 0, none⟩), .int .i32 32] wr fun e w' => e = .returned (.bool true) ∧ Cu I w w' c (ps ++ [⟨1, ⟨#[]⟩, (b.toNat : Int) - 48⟩]) 0 [] := by
  have HH := hid_of h
  obtain ⟨pv, uv, hb, hp, hu⟩ := h.ex
  obtain ⟨c0, c1, c2, c3, f0, f1, f2, f3⟩ := look4 hb
  clear h hb hp hu
  go_enter Tryz.func52, Tryz.ntmps52
  go_wp2_with fail
  refine (goes_bl wr).mono ?_
  rintro e w1 ⟨rfl, hw⟩
  have hw := hw.symm
  subst hw
  go_wp2_with fail
  refine (end_num b hb0 c w wr ps HH.out hG hl).mono ?_
  rintro e W1 ⟨rfl, h2⟩
  clear HH
  have HH := hid_of h2
  clear h2
  go_wp2_with fail
  refine (begin_bl c w W1 _ 1 [] HH.out).mono ?_
  rintro e W2 ⟨rfl, h2⟩
  clear HH
  have HH := hid_of h2
  clear h2
  go_wp2
  go_ret
  exact ⟨rfl, HH.out⟩
end Go.Proofs.YtkilngknklpadaaGreatDoor

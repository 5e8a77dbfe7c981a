/-
 The document's Used, room, Stamp, Limit, New.
-/
import Derived.Test.YtjdbmjkidljhpaaGreatDoorTRpl
namespace Go.Proofs.YtjdbmjkidljhpaaGreatDoor
open Go.RowKit
set_option linter.unusedVariables false
set_option linter.unusedSimpArgs false
set_option maxRecDepth 100000
theorem totB_nonneg : ∀ l : List Bl, 0 ≤ totB l
 | [] => Int.le_refl 0
 | b :: l => by
  have := totB_nonneg l
  rw [totB]
  omega
theorem totB_take : ∀ (l : List Bl) (k : Nat) (b : Bl), l[k]? = some b → totB (l.take (k + 1)) = totB (l.take k) + ((b.xs.length : Int) + 32)
 | [], k, b, h => by simp at h
 | c :: l, 0, b, h => by
  obtain rfl : c = b := by simpa using h
  simp [totB]
 | c :: l, k + 1, b, h => by
  have := totB_take l k b (by simpa using h)
  rw [List.take_succ_cons, List.take_succ_cons, totB, totB, this]
  omega
theorem totB_le : ∀ (l : List Bl), (∀ b ∈ l, b.xs.length ≤ 1048576) → totB l ≤ (l.length : Int) * 1048608
 | [], _ => by simp [totB]
 | b :: l, h => by
  have h1 := totB_le l (fun x hx => h x (List.mem_cons_of_mem _ hx))
  have h2 := h b (List.mem_cons_self ..)
  rw [totB, List.length_cons]
  omega
theorem totB_take_le : ∀ (l : List Bl) (k : Nat), totB (l.take k) ≤ totB l
 | [], k => by simp
 | b :: l, 0 => by simp only [List.take_zero, totB]; have := totB_nonneg l; omega
 | b :: l, k + 1 => by
  have := totB_take_le l k
  rw [List.take_succ_cons, totB, totB]
  omega
theorem Rst.small {w : World} {r : Nat} {lv : Value} {ρ : Rg} (h : Rst w r lv ρ) : totB ρ.l ≤ 1048608000000 := by
 have := totB_le ρ.l (fun b hb => (h.ok b hb).short)
 have := h.few
 omega
set_option maxHeartbeats 4000000 in
theorem used_ref {w : World} {r : Nat} {lv : Value} {ρ : Rg} (h : Rst w r lv ρ) : Calls Tryz.prog 21 #[.pointer (some ⟨r, 0, none⟩)] w fun e w' => e = .returned (.int .i64 (totB ρ.l)) ∧ w' = w := by
 obtain ⟨ao, c, rfl⟩ := row_form h.row
 obtain ⟨n, hn⟩ : ∃ n, n = ρ.l.length := ⟨_, rfl⟩
 have hfew := h.few
 have hnI : (n : Int) ≤ 1000000 := by omega
 have c3 : w.cell? ⟨r, 3, none⟩ = some (.slice ao n c) := by rw [hn]; exact h.cell 3
 have HGET : Hid (∀ (k : Nat) (b : Bl), ρ.l[k]? = some b → ∃ g bo bc, ao = some ⟨g, 0, none⟩ ∧ w.cell? ⟨g, k * 34 + 32, none⟩ = some (.slice bo b.xs.length bc)) := fun k b hb => by
  have hlt := (List.getElem?_eq_some_iff.1 hb).1
  have hrow := h.row
  obtain ⟨g, c', e⟩ := row_some hrow (by omega)
  cases e
  have hok := h.ok b (List.mem_of_getElem? hb)
  obtain ⟨bo, bc, hbv⟩ := hok.bin.form
  refine ⟨g, bo, bc, rfl, ?_⟩
  rw [← hbv]
  exact (Bl.range hok.len (row_get hrow h.k32 hb)).2.1
 have HSH : Hid (∀ b ∈ ρ.l, b.xs.length ≤ 1048576) := fun b hb => (h.ok b hb).short
 have HTL : Hid (totB ρ.l ≤ 1048608000000) := h.small
 have HN := hid_of hn
 clear h hn hfew
 go_enter Tryz.func21, Tryz.ntmps21
 go_wp2
 go_loop [3, 4] (fun a i => ∃ (k : Nat) (T : Int), k ≤ n ∧ i = .int .i64 (k : Int) ∧ a = .int .i64 T ∧ Hid (T = totB (ρ.l.take k))) (fun _ i => n - (intOf i).toNat)
 case atStart => exact ⟨0, 0, Nat.zero_le _, rfl, rfl, rfl⟩
 case round =>
  obtain ⟨k, T, hk, rfl, rfl, HT⟩ := hrel
  by_cases hlt : k < n
  ·have hltI : (k : Int) < (n : Int) := by omega
   obtain ⟨b, hb⟩ : ∃ b, ρ.l[k]? = some b := ⟨_, List.getElem?_eq_getElem (by rw [← HN.out]; exact hlt)⟩
   obtain ⟨g, bo, bc, rfl, x32⟩ := HGET.out k b hb
   have hsh := HSH.out b (List.mem_of_getElem? hb)
   have HT2 : Hid (T + ((b.xs.length : Int) + 32) = totB (ρ.l.take (k + 1))) := by unfold Hid; rw [totB_take ρ.l k b hb, HT.out]
   have hlo : 0 ≤ T ∧ T ≤ 1048608000000 := by
    have h1 := totB_nonneg (ρ.l.take k)
    have h2 := totB_take_le ρ.l k
    have h3 := HTL.out
    have h4 := HT.out
    omega
   obtain ⟨m, hm⟩ : ∃ m, m = b.xs.length := ⟨_, rfl⟩
   rw [← hm] at x32 HT2 hsh
   have hw1 : IntKind.i64.wrap (T + (m : Int)) = T + (m : Int) := by rw [IntKind.wrap_i64]; omega
   have hw2 : IntKind.i64.wrap (T + (m : Int) + 32) = T + (m : Int) + 32 := by rw [IntKind.wrap_i64]; omega
   clear hb hm HT
   go_wp2
   go_round
   case rel => exact ⟨k + 1, T + (m : Int) + 32, by omega, by go_num, rfl, by unfold Hid; rw [← HT2.out]; omega⟩
   case measure => simp [intOf]; omega
  ·have hltI : ¬ ((k : Int) < (n : Int)) := by omega
   have hkn : k = n := by omega
   have HTT : Hid (T = totB ρ.l) := by
    unfold Hid
    rw [HT.out, List.take_of_length_le (by rw [← HN.out]; omega)]
   clear HT hkn
   go_wp2
   go_ret
   exact ⟨by rw [← HTT.out]; rfl, rfl⟩
def costB (l : List Bl) (d : List Int) : Int := match findB l d with | some b => (b.xs.length : Int) + 32 | none => 0
def roomB (ρ : Rg) (d : List Int) (m : Int) : Bool := decide (totB ρ.l + m + 32 - costB ρ.l d ≤ ρ.cp)
set_option maxHeartbeats 4000000 in
theorem room_ref {w : World} {r : Nat} {lv : Value} {ρ : Rg} (h : Rst w r lv ρ) (d : List Int) (hd : d.length = 32) (m : Nat) (hm : m ≤ 1048576) : Calls Tryz.prog 58 #[.pointer (some ⟨r, 0, none⟩), dv d, .int .i64 (m : Int)] w fun e w' => e = .returned (.bool (roomB ρ d m)) ∧ Kept (fun _ => False) w w' := by
 obtain ⟨ao, c, rfl⟩ := row_form h.row
 have HDS := hid_of (size29_arr d hd)
 have hmI : (m : Int) ≤ 1048576 := by omega
 have HPL : Hid (∀ W, Kept (fun _ => False) w W → Calls Tryz.prog 56 #[.pointer (some ⟨r, 0, none⟩), .agg (d.map (Value.int .u8)).toArray] W fun e w' => e = .returned (.tuple #[.int .i64 (atB ρ.l d : Int), .bool (findB ρ.l d).isSome]) ∧ Kept (fun _ => False) W w') := fun W hW => place_any (h.same hW) d hd
 have HUS : Hid (∀ W, Kept (fun _ => False) w W → Calls Tryz.prog 21 #[.pointer (some ⟨r, 0, none⟩)] W fun e w' => e = .returned (.int .i64 (totB ρ.l)) ∧ w' = W) := fun W hW => used_ref (h.same hW)
 have HC1 : Hid (∀ W, Kept (fun _ => False) w W → W.cell? ⟨r, 1, none⟩ = some (.int .i64 ρ.cp)) := fun W hW => (h.same hW).cell 1
 have HC3 : Hid (∀ W, Kept (fun _ => False) w W → W.cell? ⟨r, 3, none⟩ = some (.slice ao ρ.l.length c)) := fun W hW => (h.same hW).cell 3
 have HTL : Hid (0 ≤ totB ρ.l ∧ totB ρ.l ≤ 1048608000000) := ⟨totB_nonneg _, h.small⟩
 have HKA : Hid (Kept (fun _ => False) w (w.alloc (.cells (d.map (Value.int .u8)).toArray 29))) := (Kept.refl _ w).alloc _
 have HBA : Hid ((w.alloc (.cells (d.map (Value.int .u8)).toArray 29)).heap[w.heap.size]? = some (.cells (d.map (Value.int .u8)).toArray 29 (0, 0))) := alloc_new _ _ rfl
 have hcase : (findB ρ.l d = none) ∨ ∃ (b : Bl) (g bo bc : Nat) (bo' : Option Addr), findB ρ.l d = some b ∧ b.xs.length ≤ 1048576 ∧ atB ρ.l d < ρ.l.length ∧ ao = some ⟨g, 0, none⟩ ∧ ∀ W, Kept (fun _ => False) w W → W.cell? ⟨g, atB ρ.l d * 34 + 32, none⟩ = some (.slice bo' b.xs.length bc) := by
  cases hf : findB ρ.l d with
  | none => exact .inl rfl
  | some b =>
   have hat := (findB_some hf).1
   have hok := h.ok b (List.mem_of_getElem? hat)
   have hlt := (List.getElem?_eq_some_iff.1 hat).1
   obtain ⟨g, c', e⟩ := row_some h.row (by omega)
   cases e
   obtain ⟨bo, bc, hbv⟩ := hok.bin.form
   refine .inr ⟨b, g, 0, bc, bo, rfl, hok.short, hlt, rfl, fun W hW => ?_⟩
   rw [← hbv]
   exact (Bl.range hok.len (row_get (h.same hW).row h.k32 hat)).2.1
 have HRB : Hid (roomB ρ d m = decide (totB ρ.l + m + 32 - costB ρ.l d ≤ ρ.cp)) := rfl
 unfold dv
 clear h hm hd
 unfold costB at HRB
 generalize (d.map (Value.int .u8)).toArray = ds at *
 generalize roomB ρ d m = rb at *
 generalize totB ρ.l = T at *
 generalize ρ.l.length = n at *
 have hT := HTL.out
 have hw1 : IntKind.i64.wrap (T + (m : Int)) = T + (m : Int) := by rw [IntKind.wrap_i64]; omega
 have hw2 : IntKind.i64.wrap (T + (m : Int) + 32) = T + (m : Int) + 32 := by rw [IntKind.wrap_i64]; omega
 rcases hcase with hf | ⟨b, g, _, bc, bo, hf, hsh, hlt, rfl, hcell⟩
 ·rw [hf] at HRB HPL
  generalize atB ρ.l d = at_ at *
  clear hf HC3 hT HTL
  go_enter Tryz.func58, Tryz.ntmps58
  go_upto_region 1 with fail
  generalize w.alloc (.cells ds 29) = wA at *
  go_wp2_with (refine wpList_load_row rfl 29 _ rfl w.heap.size rfl 29 ds (0, 0) _ HBA.out Tryz.underlying29 rfl HDS.out ?_)
  refine (HPL.out _ HKA.out).mono ?_
  rintro e w2 ⟨rfl, hk2⟩
  have HK2 := hid_of (HKA.out.trans hk2)
  clear hk2
  go_wp2_with fail
  refine (HUS.out _ HK2.out).mono ?_
  rintro e w3 ⟨rfl, hw3⟩
  have hw3' := hw3.symm
  subst hw3'
  have c1 := HC1.out _ HK2.out
  go_wp2
  go_ret
  exact ⟨by rw [HRB.out]; simp [hw1, hw2], HK2.out⟩
 ·rw [hf] at HRB HPL
  obtain ⟨k, hkk⟩ : ∃ k, k = atB ρ.l d := ⟨_, rfl⟩
  rw [← hkk] at hcell hlt HPL
  obtain ⟨mb, hmb⟩ : ∃ m, m = b.xs.length := ⟨_, rfl⟩
  rw [← hmb] at hcell hsh
  have HRB2 : Hid (rb = decide (T + m + 32 - ((mb : Int) + 32) ≤ ρ.cp)) := by unfold Hid; rw [HRB.out, hmb]
  have HCL := hid_of hcell
  have hltI : (k : Int) < (n : Int) := by omega
  have hw3 : IntKind.i64.wrap (T + (m : Int) + 32 - (mb : Int)) = T + (m : Int) + 32 - (mb : Int) := by rw [IntKind.wrap_i64]; omega
  have hw4 : IntKind.i64.wrap (T + (m : Int) + 32 - (mb : Int) - 32) = T + (m : Int) + 32 - (mb : Int) - 32 := by rw [IntKind.wrap_i64]; omega
  clear hf hcell hT HTL HRB hmb hkk
  go_enter Tryz.func58, Tryz.ntmps58
  go_upto_region 1 with fail
  generalize w.alloc (.cells ds 29) = wA at *
  go_wp2_with (refine wpList_load_row rfl 29 _ rfl w.heap.size rfl 29 ds (0, 0) _ HBA.out Tryz.underlying29 rfl HDS.out ?_)
  refine (HPL.out _ HKA.out).mono ?_
  rintro e w2 ⟨rfl, hk2⟩
  have HK2 := hid_of (HKA.out.trans hk2)
  clear hk2
  go_wp2_with fail
  refine (HUS.out _ HK2.out).mono ?_
  rintro e w3 ⟨rfl, hw3⟩
  have hw3' := hw3.symm
  subst hw3'
  have c1 := HC1.out _ HK2.out
  have c3 := HC3.out _ HK2.out
  have c32 := HCL.out _ HK2.out
  go_wp2
  go_ret
  exact ⟨by rw [HRB2.out]; simp [*]; omega, HK2.out⟩
def stampB (l : List Bl) (d : List Int) : Int := match findB l d with | some b => b.st | none => 0
set_option maxHeartbeats 4000000 in
theorem stamp_ref {w : World} {r : Nat} {lv : Value} {ρ : Rg} (h : Rst w r lv ρ) (d : List Int) (hd : d.length = 32) : Calls Tryz.prog 46 #[.pointer (some ⟨r, 0, none⟩), dv d] w fun e w' => e = .returned (.int .i64 (stampB ρ.l d)) ∧ Kept (fun _ => False) w w' := by
 obtain ⟨ao, c, rfl⟩ := row_form h.row
 have HDS := hid_of (size29_arr d hd)
 have HPL : Hid (∀ W, Kept (fun _ => False) w W → Calls Tryz.prog 56 #[.pointer (some ⟨r, 0, none⟩), .agg (d.map (Value.int .u8)).toArray] W fun e w' => e = .returned (.tuple #[.int .i64 (atB ρ.l d : Int), .bool (findB ρ.l d).isSome]) ∧ Kept (fun _ => False) W w') := fun W hW => place_any (h.same hW) d hd
 have HC3 : Hid (∀ W, Kept (fun _ => False) w W → W.cell? ⟨r, 3, none⟩ = some (.slice ao ρ.l.length c)) := fun W hW => (h.same hW).cell 3
 have HKA : Hid (Kept (fun _ => False) w (w.alloc (.cells (d.map (Value.int .u8)).toArray 29))) := (Kept.refl _ w).alloc _
 have HBA : Hid ((w.alloc (.cells (d.map (Value.int .u8)).toArray 29)).heap[w.heap.size]? = some (.cells (d.map (Value.int .u8)).toArray 29 (0, 0))) := alloc_new _ _ rfl
 have hcase : (findB ρ.l d = none) ∨ ∃ (b : Bl) (g : Nat), findB ρ.l d = some b ∧ atB ρ.l d < ρ.l.length ∧ ao = some ⟨g, 0, none⟩ ∧ ∀ W, Kept (fun _ => False) w W → W.cell? ⟨g, atB ρ.l d * 34 + 33, none⟩ = some (.int .i64 b.st) := by
  cases hf : findB ρ.l d with
  | none => exact .inl rfl
  | some b =>
   have hat := (findB_some hf).1
   have hok := h.ok b (List.mem_of_getElem? hat)
   have hlt := (List.getElem?_eq_some_iff.1 hat).1
   obtain ⟨g, c', e⟩ := row_some h.row (by omega)
   cases e
   exact .inr ⟨b, g, rfl, hlt, rfl, fun W hW => (Bl.range hok.len (row_get (h.same hW).row h.k32 hat)).2.2⟩
 have hsb : stampB ρ.l d = match findB ρ.l d with | some b => b.st | none => 0 := rfl
 unfold dv
 clear h hd
 generalize (d.map (Value.int .u8)).toArray = ds at *
 generalize ρ.l.length = n at *
 rw [hsb]
 clear hsb
 rcases hcase with hf | ⟨b, g, hf, hlt, rfl, hcell⟩
 ·rw [hf] at HPL ⊢
  generalize atB ρ.l d = at_ at *
  clear hf
  go_enter Tryz.func46, Tryz.ntmps46
  go_upto_region 1 with fail
  generalize w.alloc (.cells ds 29) = wA at *
  go_wp2_with (refine wpList_load_row rfl 29 _ rfl w.heap.size rfl 29 ds (0, 0) _ HBA.out Tryz.underlying29 rfl HDS.out ?_)
  refine (HPL.out _ HKA.out).mono ?_
  rintro e w2 ⟨rfl, hk2⟩
  have HK2 := hid_of (HKA.out.trans hk2)
  clear hk2
  go_wp2
  go_ret
  exact ⟨rfl, HK2.out⟩
 ·rw [hf] at HPL ⊢
  obtain ⟨k, hkk⟩ : ∃ k, k = atB ρ.l d := ⟨_, rfl⟩
  rw [← hkk] at hcell hlt HPL
  have HCL := hid_of hcell
  have hltI : (k : Int) < (n : Int) := by omega
  clear hf hcell hkk
  go_enter Tryz.func46, Tryz.ntmps46
  go_upto_region 1 with fail
  generalize w.alloc (.cells ds 29) = wA at *
  go_wp2_with (refine wpList_load_row rfl 29 _ rfl w.heap.size rfl 29 ds (0, 0) _ HBA.out Tryz.underlying29 rfl HDS.out ?_)
  refine (HPL.out _ HKA.out).mono ?_
  rintro e w2 ⟨rfl, hk2⟩
  have HK2 := hid_of (HKA.out.trans hk2)
  have c3 := HC3.out _ HK2.out
  have c33 := HCL.out _ HK2.out
  clear hk2
  go_wp2
  go_ret
  exact ⟨rfl, HK2.out⟩
end Go.Proofs.YtjdbmjkidljhpaaGreatDoor

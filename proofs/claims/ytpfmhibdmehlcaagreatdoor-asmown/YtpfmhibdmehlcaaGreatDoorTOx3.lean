import Derived.Test.YtpfmhibdmehlcaaGreatDoorTOx2
namespace Go.Proofs.YtpfmhibdmehlcaaGreatDoor
open Go.RowKit
set_option linter.unusedVariables false
set_option linter.unusedSimpArgs false
set_option maxRecDepth 100000
def bx5 (b2 b3 b4 b5 b6 : Nat) : Nat → Nat
 | 2 => b2
 | 3 => b3
 | 4 => b4
 | 5 => b5
 | 6 => b6
 | _ => 0
def kindsL (bx : Nat → Nat) : List Value := kindL bx 0 ++ kindL bx 1 ++ kindL bx 2 ++ kindL bx 3 ++ kindL bx 4 ++ kindL bx 5 ++ kindL bx 6
def Boxes (w : World) (bx : Nat → Nat) : Prop := ∀ k, 2 ≤ k → k ≤ 6 → w.heap[bx k]? = some (.cells #[.int .i64 (endOf k)] 3 (0, 0))
theorem Boxes.kept {S : Nat → Prop} {w w' : World} {bx : Nat → Nat} (h : Boxes w bx) (hk : Kept S w w') (hS : ∀ k, 2 ≤ k → k ≤ 6 → ¬ S (bx k)) : Boxes w' bx := fun k h1 h2 => box_kept hk (h k h1 h2) (hS k h1 h2)
theorem built92 (bx : Nat → Nat) : Tryz.prog.built 163 [(0, .agg (kindL bx 0).toArray), (1, .agg (kindL bx 1).toArray), (2, .agg (kindL bx 2).toArray), (3, .agg (kindL bx 3).toArray), (4, .agg (kindL bx 4).toArray), (5, .agg (kindL bx 5).toArray), (6, .agg (kindL bx 6).toArray)] = some (kindsL bx).toArray := by kernel_rfl
theorem size92 (bx : Nat → Nat) : (Tryz.prog.info? 163).map (·.size) = some (kindsL bx).toArray.size := by kernel_rfl
theorem kinds_one (bx : Nat → Nat) : (kindsL bx).toArray.all (·.oneCell') = true := by
 rw [Array.all_eq_true_iff_forall_mem]
 intro v hv
 have h := fun k => Array.all_eq_true_iff_forall_mem.1 (kind_one bx k) v
 have hv' : v ∈ kindsL bx := by simpa using hv
 unfold kindsL at hv'
 simp only [List.mem_append] at hv'
 rcases hv' with (((((h0 | h0) | h0) | h0) | h0) | h0) | h0 <;> exact h _ (by simpa using h0)
def z92 : Array Value := (List.replicate 21 Value.nilFunc).toArray
theorem wpList_tab92 {ops : Array Oper} {o : Oper} {a : Act} {w : World} {Q : Exit → Act → World → Prop} {rest : List Oper} (bx : Nat → Nat) (hg : o.guard = none) (parts : Array (Nat × Operand)) (ho : o.op = .build 163 parts)
  (e : (parts.map fun (i, x) => (i, a.eval x)).toList = [(0, .agg (kindL bx 0).toArray), (1, .agg (kindL bx 1).toArray), (2, .agg (kindL bx 2).toArray), (3, .agg (kindL bx 3).toArray), (4, .agg (kindL bx 4).toArray), (5, .agg (kindL bx 5).toArray), (6, .agg (kindL bx 6).toArray)])
  (h : wpList Tryz.prog ops Q rest (a.put o.dst (.agg (kindsL bx).toArray)) w) : wpList Tryz.prog ops Q (o :: rest) a w := by
 refine wpList_build hg 163 _ ho (by rw [e, built92]; rfl) ?_
 rw [e, built92]
 exact h
set_option maxHeartbeats 4000000 in
theorem kinds_any (w : World) : Calls Tryz.prog 80 #[] w fun e w' => ∃ bx, e = .returned (.agg (kindsL bx).toArray) ∧ Boxes w' bx ∧ (∀ k, 2 ≤ k → k ≤ 6 → w.heap.size ≤ bx k) ∧ Kept (fun _ => False) w w' := by
 have hB0 := heap_alloc_new w (.cells z92 163)
 have hK0 : Kept (fun _ => False) w (w.alloc (.cells z92 163)) := (Kept.refl _ _).alloc _
 go_enter Tryz.func80, Tryz.ntmps80
 go_wp2_with (refine wpList_to rfl (some 0) rfl (.pointer (some ⟨w.heap.size, 0, none⟩)) (w.alloc (.cells z92 163)) (by kernel_rfl) ?_)
 generalize w.alloc (.cells z92 163) = w0 at *
 refine (none_any w0).mono ?_
 rintro e w1 ⟨rfl, hk1⟩
 have HB1 := hid_of (box_kept hk1 hB0 id)
 have HK1 := hid_of (hK0.trans hk1)
 clear hB0 hK0 hk1
 go_wp2_with fail
 refine (anynum_any w1).mono ?_
 rintro e w2 ⟨rfl, hk2⟩
 have HB2 := hid_of (box_kept hk2 HB1.out id)
 have HK2 := hid_of (HK1.out.trans hk2)
 clear hk2 HB1 HK1
 go_wp2_with fail
 refine (below_any 64 w2).mono ?_
 rintro e w3 ⟨rfl, hx2, hk3⟩
 have HX2_3 := hid_of hx2
 have HN2 : Hid (w.heap.size ≤ w2.heap.size) := HK2.out.size
 have HB3 := hid_of (box_kept hk3 HB2.out id)
 have HK3 := hid_of (HK2.out.trans hk3)
 clear hx2 hk3 HB2 HK2 
 generalize w2.heap.size = b2 at *
 go_wp2_with fail
 refine (below_any 4096 w3).mono ?_
 rintro e w4 ⟨rfl, hx3, hk4⟩
 have HX2_4 := hid_of (box_kept hk4 HX2_3.out id)
 have HX3_4 := hid_of hx3
 have HN3 : Hid (w.heap.size ≤ w3.heap.size) := HK3.out.size
 have HB4 := hid_of (box_kept hk4 HB3.out id)
 have HK4 := hid_of (HK3.out.trans hk4)
 clear hx3 hk4 HB3 HK3 HX2_3
 generalize w3.heap.size = b3 at *
 go_wp2_with fail
 refine (below_any 64 w4).mono ?_
 rintro e w5 ⟨rfl, hx4, hk5⟩
 have HX2_5 := hid_of (box_kept hk5 HX2_4.out id)
 have HX3_5 := hid_of (box_kept hk5 HX3_4.out id)
 have HX4_5 := hid_of hx4
 have HN4 : Hid (w.heap.size ≤ w4.heap.size) := HK4.out.size
 have HB5 := hid_of (box_kept hk5 HB4.out id)
 have HK5 := hid_of (HK4.out.trans hk5)
 clear hx4 hk5 HB4 HK4 HX2_4 HX3_4
 generalize w4.heap.size = b4 at *
 go_wp2_with fail
 refine (below_any 5 w5).mono ?_
 rintro e w6 ⟨rfl, hx5, hk6⟩
 have HX2_6 := hid_of (box_kept hk6 HX2_5.out id)
 have HX3_6 := hid_of (box_kept hk6 HX3_5.out id)
 have HX4_6 := hid_of (box_kept hk6 HX4_5.out id)
 have HX5_6 := hid_of hx5
 have HN5 : Hid (w.heap.size ≤ w5.heap.size) := HK5.out.size
 have HB6 := hid_of (box_kept hk6 HB5.out id)
 have HK6 := hid_of (HK5.out.trans hk6)
 clear hx5 hk6 HB5 HK5 HX2_5 HX3_5 HX4_5
 generalize w5.heap.size = b5 at *
 go_wp2_with fail
 refine (below_any 256 w6).mono ?_
 rintro e w7 ⟨rfl, hx6, hk7⟩
 have HX2_7 := hid_of (box_kept hk7 HX2_6.out id)
 have HX3_7 := hid_of (box_kept hk7 HX3_6.out id)
 have HX4_7 := hid_of (box_kept hk7 HX4_6.out id)
 have HX5_7 := hid_of (box_kept hk7 HX5_6.out id)
 have HX6_7 := hid_of hx6
 have HN6 : Hid (w.heap.size ≤ w6.heap.size) := HK6.out.size
 have HB7 := hid_of (box_kept hk7 HB6.out id)
 have HK7 := hid_of (HK6.out.trans hk7)
 clear hx6 hk7 HB6 HK6 HX2_6 HX3_6 HX4_6 HX5_6
 generalize w6.heap.size = b6 at *
 have hb7 := HB7.out
 have HXR := hid_of (setRow_heap w7 w.heap.size _ (kindsL (bx5 b2 b3 b4 b5 b6)).toArray 163 (0, 0) hb7)
 have hkr := kept_row w7 w.heap.size (kindsL (bx5 b2 b3 b4 b5 b6)).toArray
 have HKR := hid_of (HK7.out.step hkr (fun i hi e => by omega))
 have HBX : Hid (Boxes (w7.setRow w.heap.size (kindsL (bx5 b2 b3 b4 b5 b6)).toArray) (bx5 b2 b3 b4 b5 b6)) := by
  have hne : ∀ b c t, w7.heap[b]? = some (.cells c t (0, 0)) → t = 3 → b ≠ w.heap.size := fun b c t h ht e => by
   subst e
   rw [hb7] at h
   cases h
   cases ht
  intro k h1 h2
  match k, h1, h2 with
  | 2, _, _ => exact box_kept hkr HX2_7.out (hne _ _ _ HX2_7.out rfl)
  | 3, _, _ => exact box_kept hkr HX3_7.out (hne _ _ _ HX3_7.out rfl)
  | 4, _, _ => exact box_kept hkr HX4_7.out (hne _ _ _ HX4_7.out rfl)
  | 5, _, _ => exact box_kept hkr HX5_7.out (hne _ _ _ HX5_7.out rfl)
  | 6, _, _ => exact box_kept hkr HX6_7.out (hne _ _ _ HX6_7.out rfl)
 have HLO : Hid (∀ k, 2 ≤ k → k ≤ 6 → w.heap.size ≤ bx5 b2 b3 b4 b5 b6 k) := by
  intro k h1 h2
  match k, h1, h2 with
  | 2, _, _ => exact HN2.out
  | 3, _, _ => exact HN3.out
  | 4, _, _ => exact HN4.out
  | 5, _, _ => exact HN5.out
  | 6, _, _ => exact HN6.out
 clear hkr HB7 HK7 HN2 HN3 HN4 HN5 HN6 HX2_7 HX3_7 HX4_7 HX5_7 HX6_7
 go_wp2_with (first | refine wpList_tab92 (bx5 b2 b3 b4 b5 b6) rfl _ rfl (by kernel_rfl) ?_ | refine wpList_store_row rfl 163 _ _ rfl w.heap.size (kindsL (bx5 b2 b3 b4 b5 b6)).toArray rfl rfl 163 _ hb7 (size92 _) (by kernel_rfl) (kinds_one _) ?_)
 refine bodyPost_ret (v := .agg (kindsL (bx5 b2 b3 b4 b5 b6)).toArray) ?_ rfl ⟨_, rfl, HBX.out, HLO.out, HKR.out⟩
 exact results_cell_row (by rfl) _ _ w.heap.size 163 _ (0, 0) _ (by rfl) HXR.out Tryz.underlying163 rfl (size92 _)
theorem run_ix57 (w : World) : ∀ k : Nat, k < 46 → (Instr.index 165 (.agg (tcells insL).toArray) (.int .i64 (k : Int))).run Tryz.prog w = .ok (.agg (insL.getD k Sh.none).cells.toArray) w
 | 0, _ => by kernel_rfl
 | 1, _ => by kernel_rfl
 | 2, _ => by kernel_rfl
 | 3, _ => by kernel_rfl
 | 4, _ => by kernel_rfl
 | 5, _ => by kernel_rfl
 | 6, _ => by kernel_rfl
 | 7, _ => by kernel_rfl
 | 8, _ => by kernel_rfl
 | 9, _ => by kernel_rfl
 | 10, _ => by kernel_rfl
 | 11, _ => by kernel_rfl
 | 12, _ => by kernel_rfl
 | 13, _ => by kernel_rfl
 | 14, _ => by kernel_rfl
 | 15, _ => by kernel_rfl
 | 16, _ => by kernel_rfl
 | 17, _ => by kernel_rfl
 | 18, _ => by kernel_rfl
 | 19, _ => by kernel_rfl
 | 20, _ => by kernel_rfl
 | 21, _ => by kernel_rfl
 | 22, _ => by kernel_rfl
 | 23, _ => by kernel_rfl
 | 24, _ => by kernel_rfl
 | 25, _ => by kernel_rfl
 | 26, _ => by kernel_rfl
 | 27, _ => by kernel_rfl
 | 28, _ => by kernel_rfl
 | 29, _ => by kernel_rfl
 | 30, _ => by kernel_rfl
 | 31, _ => by kernel_rfl
 | 32, _ => by kernel_rfl
 | 33, _ => by kernel_rfl
 | 34, _ => by kernel_rfl
 | 35, _ => by kernel_rfl
 | 36, _ => by kernel_rfl
 | 37, _ => by kernel_rfl
 | 38, _ => by kernel_rfl
 | 39, _ => by kernel_rfl
 | 40, _ => by kernel_rfl
 | 41, _ => by kernel_rfl
 | 42, _ => by kernel_rfl
 | 43, _ => by kernel_rfl
 | 44, _ => by kernel_rfl
 | 45, _ => by kernel_rfl
 | n + 46, h => absurd h (by omega)
theorem kept_cells (g : Nat) : ∀ (vs : List Value) (o : Nat) (w : World), Kept (fun k => k = g) w (w.setCells g o vs)
 | [], o, w => Kept.refl _ _
 | v :: r, o, w => (kept_set w g o v).trans (kept_cells g r (o + 1) (w.setCell ⟨g, o, none⟩ v))
theorem there_sub {w : World} {g n o m : Nat} (h : w.there g 0 n) (hm : o + m ≤ n) : w.there g o m := fun j hj => by
 have := h (o + j) (by omega)
 rwa [Nat.zero_add] at this
theorem range_kept {S : Nat → Prop} {w w' : World} {g o : Nat} {cs : List Value} (h : w.rangeAt g o cs) (hk : Kept S w w') (hS : ¬ S g) : w'.rangeAt g o cs := fun j v hv => hk.cell (h j v hv) hS
def kix (i : Nat) : Nat := (insL.getD i Sh.none).o.toNat
theorem kix_lt : ∀ i, i < 46 → kix i ≤ 6 ∧ (insL.getD i Sh.none).o = (kix i : Int) := by
 intro i hi
 revert i
 unfold kix
 decide +kernel
structure OpsAt (w : World) (g : Nat) (bx : Nat → Nat) : Prop where
 row : ∀ i, i < 46 → w.rangeAt g (i * 3) (kindL bx (kix i))
 box : Boxes w bx
theorem OpsAt.kept {S : Nat → Prop} {w w' : World} {g : Nat} {bx : Nat → Nat} (h : OpsAt w g bx) (hk : Kept S w w') (hg : ¬ S g) (hS : ∀ k, 2 ≤ k → k ≤ 6 → ¬ S (bx k)) : OpsAt w' g bx :=
 ⟨fun i hi => range_kept (h.row i hi) hk hg, h.box.kept hk hS⟩
theorem kinds_at (bx : Nat → Nat) : ∀ k, k ≤ 6 → ∀ j v, (kindL bx k)[j]? = some v → (kindsL bx)[k * 3 + j]? = some v := by
 intro k hk j v hv
 have hj : j < 3 := by
  have := (List.getElem?_eq_some_iff.1 hv).1
  rwa [kind_len] at this
 match k, hk, j, hj with
 | 0, _, 0, _ => exact hv
 | 0, _, 1, _ => exact hv
 | 0, _, 2, _ => exact hv
 | 1, _, 0, _ => exact hv
 | 1, _, 1, _ => exact hv
 | 1, _, 2, _ => exact hv
 | 2, _, 0, _ => exact hv
 | 2, _, 1, _ => exact hv
 | 2, _, 2, _ => exact hv
 | 3, _, 0, _ => exact hv
 | 3, _, 1, _ => exact hv
 | 3, _, 2, _ => exact hv
 | 4, _, 0, _ => exact hv
 | 4, _, 1, _ => exact hv
 | 4, _, 2, _ => exact hv
 | 5, _, 0, _ => exact hv
 | 5, _, 1, _ => exact hv
 | 5, _, 2, _ => exact hv
 | 6, _, 0, _ => exact hv
 | 6, _, 1, _ => exact hv
 | 6, _, 2, _ => exact hv
def z74 : Array Value := madeCells (Value.agg #[.nilFunc, .nilFunc, .nilFunc]).cells 138
theorem z74_size : z74.size = 138 := size_madeCells _ _
theorem Tryz.info141 : (Tryz.prog.info? 141).map (fun i => (i.zero, i.size, i.bytes)) = some (some (.agg #[.nilFunc, .nilFunc, .nilFunc]), 3, 24) := by kernel_rfl
theorem make74 (W : World) : (Instr.makeSlice 133 (.int .i64 46) (.int .i64 46)).run Tryz.prog W = .ok (.slice (some ⟨W.heap.size, 0, none⟩) 46 46) (W.alloc (.cells z74 141)) := by
 obtain ⟨i0, hi, hz0, hz1, hz2⟩ := info_parts Tryz.info141
 have := run_make (P := Tryz.prog) W 133 141 i0 _ Tryz.underlying133 hi hz0 .i64 .i64 46 46 (by omega) (by omega) (by rw [hz2]; omega) (by omega)
 simpa [z74, hz1] using this
set_option maxHeartbeats 8000000 in
theorem operands_any (w : World) : Calls Tryz.prog 59 #[] w fun e w' => ∃ g bx, e = .returned (.slice (some ⟨g, 0, none⟩) 46 46) ∧ OpsAt w' g bx ∧ w.heap.size ≤ g ∧ (∀ k, 2 ≤ k → k ≤ 6 → w.heap.size ≤ bx k) ∧ Kept (fun _ => False) w w' := by
 go_enter Tryz.func59, Tryz.ntmps59
 go_wp2_with fail
 refine (kinds_any w).mono ?_
 rintro e w1 ⟨bx, rfl, hbx, hlo, hk1⟩
 obtain ⟨hO, hX, hK⟩ := new_row w1 z92 (kindsL bx).toArray 163
 go_upto_region 2 with (first | refine wpList_to rfl (some 1) rfl (.pointer (some ⟨w1.heap.size, 0, none⟩)) (w1.alloc (.cells z92 163)) (by kernel_rfl) ?_ | refine wpList_store_row rfl 163 _ _ rfl w1.heap.size (kindsL bx).toArray rfl rfl 163 _ hO (size92 bx) (by kernel_rfl) (kinds_one bx) ?_)
 clear hO
 have hs1 := hk1.size
 generalize (w1.alloc (.cells z92 163)).setRow w1.heap.size (kindsL bx).toArray = w2 at *
 have HLO := hid_of hlo
 have HB2 := hid_of (hbx.kept hK (fun _ _ _ f => f))
 have HK2 := hid_of (hk1.trans hK)
 have HA2 := hid_of hX
 generalize w1.heap.size = A at *
 have mk := make74 w2
 clear hbx hlo hk1 hK hX
 go_upto_region 3 with fail
 have HG3 : Hid ((w2.alloc (.cells z74 141)).there w2.heap.size 0 138) := fun j hj => by
  have hb := heap_alloc_new w2 (.cells z74 141)
  rw [Nat.zero_add]
  refine ⟨?_, frozen_block _ _ _ _ _ hb⟩
  rw [cell_block _ _ _ _ _ _ hb, Array.getElem?_eq_getElem (by rw [z74_size]; exact hj)]
  rfl
 have hkA : Kept (fun _ => False) w2 (w2.alloc (.cells z74 141)) := (Kept.refl _ _).alloc _
 have HB3 := hid_of (HB2.out.kept hkA (fun _ _ _ f => f))
 have HA3 := hid_of (box_kept hkA HA2.out id)
 have HK3 := hid_of (HK2.out.trans hkA)
 have HGW : Hid (w.heap.size ≤ w2.heap.size) := HK2.out.size
 have HAG : Hid (A < w2.heap.size ∧ ∀ k, 2 ≤ k → k ≤ 6 → bx k < w2.heap.size) := ⟨(Array.getElem?_eq_some_iff.1 HA2.out).1, fun k h1 h2 => (Array.getElem?_eq_some_iff.1 (HB2.out k h1 h2)).1⟩
 clear mk HB2 HA2 HK2 hkA
 generalize w2.alloc (.cells z74 141) = w3 at *
 generalize w2.heap.size = g at *
 go_wp2_with fail
 refine (ins_any w3).mono ?_
 rintro e w4 ⟨rfl, hk4⟩
 have HG4 : Hid (w4.there g 0 138) := fun j hj => by
  obtain ⟨h1, h2⟩ := HG3.out j hj
  obtain ⟨v, hv⟩ := Option.isSome_iff_exists.1 h1
  have hc := hk4.cell hv id
  refine ⟨by rw [hc]; rfl, ?_⟩
  rw [← h2]
  have hb := hk4.block g (block_lt_of_cell hv) id
  simp only [World.frozen?, hb]
 have HB4 := hid_of (HB3.out.kept hk4 (fun _ _ _ f => f))
 have HA4 := hid_of (box_kept hk4 HA3.out id)
 have HK4 := hid_of (HK3.out.trans hk4)
 clear hk4 HG3 HB3 HA3 HK3
 generalize hT : (tcells insL).toArray = T
 have HT := hid_of hT
 clear hT
 go_wp2
 go_loopw [8] (fun i wr => ∃ k : Nat, k ≤ 46 ∧ i = .int .i64 (k : Int) ∧ wr.there g 0 138 ∧ (∀ i, i < k → wr.rangeAt g (i * 3) (kindL bx (kix i))) ∧ wr.heap[A]? = some (.cells (kindsL bx).toArray 163 (0, 0)) ∧ Boxes wr bx ∧ Kept (fun _ => False) w wr) (fun i _ => 46 - (intOf i).toNat)
 case atStart => exact ⟨0, by omega, rfl, HG4.out, fun i hi => absurd hi (by omega), HA4.out, HB4.out, HK4.out⟩
 case round =>
  obtain ⟨k, hk, rfl, hth, hrs, hA, hB, hKe⟩ := hrel
  by_cases hlt : k < 46
  ·have hki : (k : Int) < 46 := by omega
   have hix := run_ix57 wr k hlt
   rw [HT.out] at hix
   obtain ⟨hm6, hmo⟩ := kix_lt k hlt
   have HKX : Hid (kix k = kix k) := rfl
   generalize hm : kix k = m at *
   have HM := hid_of hm
   generalize insL.getD k Sh.none = x at *
   obtain ⟨nm, o, ta, gi⟩ := x
   obtain rfl : o = (m : Int) := hmo
   rw [sh_lit] at hix
   have hkA : Kept (fun _ => False) wr (wr.alloc (.cells #[.string nm, .int .i64 (m : Int), .int .i64 ta, .int .i64 gi] 147)) := (Kept.refl _ _).alloc _
   have hr1 : (wr.alloc (.cells #[.string nm, .int .i64 (m : Int), .int .i64 ta, .int .i64 gi] 147)).rangeAt A (m * 3) (kindL bx m) := fun j v hv => by
    rw [cell_block _ _ _ _ _ _ (box_kept hkA hA id)]
    have := kinds_at bx m hm6 j v hv
    simpa using this
   have ht1 : (wr.alloc (.cells #[.string nm, .int .i64 (m : Int), .int .i64 ta, .int .i64 gi] 147)).there g (k * 3) (kindL bx m).toArray.size := by
    rw [List.size_toArray, kind_len]
    exact there_sub (World.there_alloc hth _) (by omega)
   have hsz : (Tryz.prog.info? 141).map (·.size) = some (kindL bx m).toArray.size := by rw [size74, List.size_toArray, kind_len]
   have hszl : (Tryz.prog.info? 141).map (·.size) = some (kindL bx m).length := by rw [size74, kind_len]
   have hmI : (m : Int) < 7 := by omega
   have HIN : Hid (∀ w', w' = ((wr.alloc (.cells #[.string nm, .int .i64 (m : Int), .int .i64 ta, .int .i64 gi] 147)).setCells g (k * 3) (kindL bx m).toArray.toList) → w'.there g 0 138 ∧ (∀ i, i < k + 1 → w'.rangeAt g (i * 3) (kindL bx (kix i))) ∧ w'.heap[A]? = some (.cells (kindsL bx).toArray 163 (0, 0)) ∧ Boxes w' bx ∧ Kept (fun _ => False) w w') := by
    rintro w' rfl
    have hks := kept_cells g (kindL bx m).toArray.toList (k * 3) (wr.alloc (.cells #[.string nm, .int .i64 (m : Int), .int .i64 ta, .int .i64 gi] 147))
    refine ⟨World.there_setCells (World.there_alloc hth _) _ _ _, fun i hi => ?_, box_kept hks (box_kept hkA hA id) (by have := HAG.out.1; omega), (hB.kept hkA (fun _ _ _ f => f)).kept hks (fun q h1 h2 => by have := HAG.out.2 q h1 h2; omega), (hKe.trans hkA).step hks (fun i hi e => by have := HGW.out; omega)⟩
    by_cases e : i = k
    ·subst e
     rw [HM.out]
     exact World.rangeAt_setCells_same _ _ _ _ (by simpa using ht1)
    ·exact World.rangeAt_setCells_apart (World.rangeAt_alloc (hrs i (by omega)) _) _ _ _ (.inr (.inl (by rw [kind_len]; omega)))
   clear hth hrs hA hB hKe hkA HG4 HA4 HB4 HK4
   go_wp2_with (first | refine wpList_load_mid rfl 141 _ rfl A (m * 3) rfl (kindL bx m) _ hr1 Tryz.underlying141 rfl hszl ?_ | refine wpList_store_mid rfl 141 _ _ rfl g (k * 3) (kindL bx m).toArray rfl rfl ht1 hsz (kind_one bx m) ?_)
   go_roundw
   case rel => exact ⟨k + 1, by omega, by go_num, HIN.out _ rfl⟩
   case measure => simp [intOf]; omega
  ·have hki : (46 : Int) ≤ (k : Int) := by omega
   have HO : Hid (OpsAt wr g bx) := ⟨fun i hi => hrs i (by omega), hB⟩
   have HK9 := hid_of hKe
   clear hth hrs hA hB hKe HG4 HA4 HB4 HK4 hlt hk
   go_wp2
   go_ret
   exact ⟨g, bx, rfl, HO.out, HGW.out, HLO.out, HK9.out⟩
def mayP : Nat → Int → Bool
 | 0, a => a == 0
 | 1, _ => true
 | k, a => decide (0 ≤ a) && decide (a < endOf k)
def opB : Nat → Int → List Int
 | 0, _ => []
 | 1, a => Mth.form (fold a)
 | _, a => Mth.form a
theorem may0 (a : Int) (w : World) : Calls Tryz.prog 132 #[.int .i64 a] w fun e w' => e = .returned (.bool (a == 0)) ∧ w' = w := by
 go_enter Tryz.func132, Tryz.ntmps132
 go_wp2
 go_ret
 exact ⟨rfl, rfl⟩
theorem may1 (a : Int) (w : World) : Calls Tryz.prog 135 #[.int .i64 a] w fun e w' => e = .returned (.bool true) ∧ w' = w := by
 go_enter Tryz.func135, Tryz.ntmps135
 go_wp2
 go_ret
 exact ⟨rfl, rfl⟩
theorem may2 (a n : Int) (b : Nat) (w : World) (hb : w.heap[b]? = some (.cells #[.int .i64 n] 3 (0, 0))) : Calls Tryz.prog 140 #[.int .i64 a, .pointer (some ⟨b, 0, none⟩)] w fun e w' => e = .returned (.bool (decide (0 ≤ a) && decide (a < n))) ∧ w' = w := by
 have hc : w.cell? ⟨b, 0, none⟩ = some (.int .i64 n) := by rw [cell_block _ _ _ _ _ _ hb]; rfl
 by_cases h : 0 ≤ a
 ·have HV : Hid ((decide (0 ≤ a) && decide (a < n)) = decide (a < n)) := by unfold Hid; simp [h]
  rw [HV.out]
  go_enter Tryz.func140, Tryz.ntmps140
  go_wp2
  go_ret
  exact ⟨rfl, rfl⟩
 ·have HV : Hid ((decide (0 ≤ a) && decide (a < n)) = false) := by unfold Hid; simp [h]
  rw [HV.out]
  go_enter Tryz.func140, Tryz.ntmps140
  go_wp2
  go_ret
  exact ⟨rfl, rfl⟩
theorem put0 (x y : Value) (w : World) : Calls Tryz.prog 133 #[x, y] w fun e w' => e = .returned (.tuple #[]) ∧ w' = w := by
 go_enter Tryz.func133, Tryz.ntmps133
 go_wp2
 go_end0
 exact ⟨rfl, rfl⟩
theorem put1 (a : Nat) (v : Value) (s : St) (n : Int) (w : World) (hw : WS w a v s) (hn : -9223372036854775808 ≤ n) (h1 : n < 9223372036854775808) : Calls Tryz.prog 136 #[.pointer (some ⟨a, 0, none⟩), .int .i64 n] w (PutS a v (s.put (Mth.form (fold n))) w) := by
 have HP := hid_of (int_s a v s n w hw hn h1)
 clear hw
 go_enter Tryz.func136, Tryz.ntmps136
 go_wp2_with fail
 refine HP.out.mono ?_
 intro e w2 hp
 have HP := hid_of hp
 obtain ⟨rfl, _⟩ := hp
 go_wp2
 go_end0
 exact HP.out
theorem put2 (a : Nat) (v : Value) (s : St) (n : Int) (w : World) (hw : WS w a v s) (hn : -9223372036854775808 ≤ n) (h1 : n < 9223372036854775808) : Calls Tryz.prog 141 #[.pointer (some ⟨a, 0, none⟩), .int .i64 n] w (PutS a v (s.num n) w) := by
 have HP := hid_of (num_s a v s n w hw hn h1)
 clear hw
 go_enter Tryz.func141, Tryz.ntmps141
 go_wp2_with fail
 refine HP.out.mono ?_
 intro e w2 hp
 have HP := hid_of hp
 obtain ⟨rfl, _⟩ := hp
 go_wp2
 go_end0
 exact HP.out
def kindR (bx : Nat → Nat) (n : Int) : List Value := if 0 ≤ n ∧ n < 46 then kindL bx (kix n.toNat) else [.nilFunc, .nilFunc, .nilFunc]
theorem kindR_len (bx : Nat → Nat) (n : Int) : (kindR bx n).length = 3 := by
 unfold kindR
 split
 ·exact kind_len _ _
 ·rfl
theorem kindR_one (bx : Nat → Nat) (n : Int) : (kindR bx n).toArray.all (·.oneCell') = true := by
 unfold kindR
 split
 ·exact kind_one _ _
 ·exact three_one _ _ _ rfl rfl rfl
set_option maxHeartbeats 4000000 in
theorem rowk_any (g : Nat) (bx : Nat → Nat) (n : Int) (w : World) (h : OpsAt w g bx) (hn0 : -9223372036854775808 ≤ n) (hn1 : n < 9223372036854775808) :
  Calls Tryz.prog 61 #[.slice (some ⟨g, 0, none⟩) 46 46, .int .i64 n] w fun e w' => e = .returned (.tuple #[.agg (kindR bx n).toArray, .bool (isRow insL n)]) ∧ Kept (fun _ => False) w w' := by
 by_cases hr : 0 ≤ n ∧ n < 46
 ·obtain ⟨k, rfl⟩ : ∃ k : Nat, n = k := ⟨n.toNat, by omega⟩
  have hkl : k < 46 := by omega
  have HR : Hid (kindR bx (k : Int) = kindL bx (kix k) ∧ isRow insL (k : Int) = true) := by
   unfold Hid kindR isRow
   rw [if_pos hr]
   exact ⟨by simp, decide_eq_true hr⟩
  have hrg : (w.alloc (.cells #[.nilFunc, .nilFunc, .nilFunc] 141)).rangeAt g (k * 3) (kindL bx (kix k)) := World.rangeAt_alloc (h.row k hkl) _
  have hone := kind_one bx (kix k)
  have hszl : (Tryz.prog.info? 141).map (·.size) = some (kindL bx (kix k)).length := by rw [size74, kind_len]
  have hsza : (Tryz.prog.info? 141).map (·.size) = some (kindL bx (kix k)).toArray.size := by rw [size74, List.size_toArray, kind_len]
  have hs0 : (#[.nilFunc, .nilFunc, .nilFunc] : Array Value).size = (kindL bx (kix k)).toArray.size := by rw [show (kindL bx (kix k)).toArray.size = 3 by rw [List.size_toArray, kind_len]]; rfl
  generalize kindL bx (kix k) = L at *
  obtain ⟨hO, hX, hK⟩ := new_row w #[.nilFunc, .nilFunc, .nilFunc] L.toArray 141
  have HX := hid_of hX
  have HK := hid_of hK
  have hk0 : (0 : Int) ≤ (k : Int) := by omega
  have hk1 : (k : Int) < 46 := by omega
  clear hn0 hn1 h hr hX hK
  go_enter Tryz.func61, Tryz.ntmps61
  go_wp2_with (first | refine wpList_load_mid rfl 141 _ rfl g (k * 3) rfl L _ hrg Tryz.underlying141 rfl hszl ?_ | refine wpList_store_row rfl 141 _ _ rfl w.heap.size L.toArray rfl rfl 141 _ hO hsza hs0 hone ?_)
  refine bodyPost_ret (v := .tuple #[.agg L.toArray, .bool true]) ?_ rfl ⟨by rw [HR.out.1, HR.out.2], HK.out⟩
  exact results_row_tmp (by rfl) _ _ ⟨w.heap.size, 0, none⟩ _ _ (by rfl) (by rfl) (run_loadVar_row _ w.heap.size 141 141 _ (0, 0) _ HX.out Tryz.underlying141 rfl hsza)
 ·have HR : Hid (kindR bx n = [.nilFunc, .nilFunc, .nilFunc] ∧ isRow insL n = false) := by
   unfold Hid kindR isRow
   rw [if_neg hr]
   exact ⟨rfl, decide_eq_false hr⟩
  have hd : (decide (n < 0) || decide ((46 : Int) ≤ n)) = true := by
   rw [Bool.or_eq_true, decide_eq_true_iff, decide_eq_true_iff]
   omega
  have hX := heap_alloc2_old w (.cells #[.nilFunc, .nilFunc, .nilFunc] 141) (.cells #[.nilFunc, .nilFunc, .nilFunc] 141)
  have hY := heap_alloc2_new w (.cells #[.nilFunc, .nilFunc, .nilFunc] 141) (.cells #[.nilFunc, .nilFunc, .nilFunc] 141)
  have hK := ((Kept.refl (fun _ => False) w).alloc (.cells #[.nilFunc, .nilFunc, .nilFunc] 141)).alloc (.cells #[.nilFunc, .nilFunc, .nilFunc] 141)
  have HX := hid_of (setRow_heap _ w.heap.size _ #[.nilFunc, .nilFunc, .nilFunc] 141 (0, 0) hX)
  have HK := hid_of (hK.step (kept_row _ w.heap.size #[.nilFunc, .nilFunc, .nilFunc]) (fun i hi e => by omega))
  clear h hr hK
  go_enter Tryz.func61, Tryz.ntmps61
  go_wp2_with (first | refine wpList_load_row rfl 141 _ rfl (w.heap.size + 1) rfl 141 _ (0, 0) _ hY Tryz.underlying141 rfl size74 ?_ | refine wpList_store_row rfl 141 _ _ rfl w.heap.size #[.nilFunc, .nilFunc, .nilFunc] rfl rfl 141 _ hX size74 rfl (three_one _ _ _ rfl rfl rfl) ?_)
  all_goals
   refine bodyPost_ret (v := .tuple #[.agg #[.nilFunc, .nilFunc, .nilFunc], .bool false]) ?_ rfl ⟨by rw [HR.out.1, HR.out.2], HK.out⟩
   exact results_row_tmp (by rfl) _ _ ⟨w.heap.size, 0, none⟩ _ _ (by rfl) (by rfl) (run_loadVar_row _ w.heap.size 141 141 _ (0, 0) _ HX.out Tryz.underlying141 rfl size74)
structure IN where
 op : Int
 a : Int
def IN.cells (x : IN) : List Value := [.int .i64 x.op, .int .i64 x.a]
def IN.Ok (x : IN) : Prop := (-9223372036854775808 ≤ x.op ∧ x.op < 9223372036854775808) ∧ -9223372036854775808 ≤ x.a ∧ x.a < 9223372036854775808
def icells (ys : List IN) : List Value := ys.flatMap IN.cells
theorem icells_length (ys : List IN) : (icells ys).length = 2 * ys.length := by
 induction ys with
 | nil => rfl
 | cons y ys ih => simp only [icells, List.flatMap_cons, List.length_append] at ih ⊢; simp only [IN.cells, List.length_cons, List.length_nil, ih]; omega
theorem icells_at : ∀ (ys : List IN) (i : Nat) (y : IN), ys[i]? = some y → ∀ j, j < 2 → (icells ys)[i * 2 + j]? = y.cells[j]?
 | [], i, y, h, _, _ => by simp at h
 | z :: zs, 0, y, h, j, hj => by
  simp at h
  subst h
  have e : icells (z :: zs) = z.cells ++ icells zs := rfl
  rw [e, List.getElem?_append_left (by simp [IN.cells]; omega)]
  simp
 | z :: zs, i + 1, y, h, j, hj => by
  have e : icells (z :: zs) = z.cells ++ icells zs := rfl
  rw [e, List.getElem?_append_right (by simp [IN.cells]; omega)]
  have := icells_at zs i y (by simpa using h) j hj
  rw [← this]
  congr 1
  simp only [IN.cells, List.length_cons, List.length_nil]
  omega
def RowI (w : World) (v : Value) (ys : List IN) : Prop :=
 (ys = [] ∧ ∃ ao c, v = .slice ao 0 c) ∨ ∃ g o c, v = .slice (some ⟨g, o, none⟩) ys.length c ∧ ∀ i y, ys[i]? = some y → w.rangeAt g (o + i * 2) y.cells
theorem RowI.shape {w : World} {v : Value} {ys : List IN} (h : RowI w v ys) : ∃ ao c, v = .slice ao ys.length c := by
 rcases h with ⟨rfl, ao, c, rfl⟩ | ⟨g, o, c, rfl, _⟩
 ·exact ⟨ao, c, rfl⟩
 ·exact ⟨_, c, rfl⟩
theorem RowI.kept {S : Nat → Prop} {w w' : World} {v : Value} {ys : List IN} (h : RowI w v ys) (hk : Kept S w w') (hS : ∀ g, v.ownBlock = some g → ¬ S g) : RowI w' v ys := by
 rcases h with h | ⟨g, o, c, rfl, hc⟩
 ·exact .inl h
 ·exact .inr ⟨g, o, c, rfl, fun i y hy j u hj => hk.cell (hc i y hy j u hj) (hS g rfl)⟩
def kOf (op : Int) : Nat := kix op.toNat
def errI (x : IN) : Int := if isRow insL x.op = true then (if mayP (kOf x.op) x.a = true then 0 else 112) else 111
def putI (x : IN) : List Int := Mth.form x.op ++ opB (kOf x.op) x.a
def firstBad : List IN → Int
 | [] => 0
 | x :: xs => if errI x = 0 then firstBad xs else errI x
def encE (ys : List IN) : Int := if 4096 < ys.length then 2 else firstBad ys
def encB (ys : List IN) : List Int := ys.flatMap putI
theorem firstBad_zero : ∀ ys : List IN, firstBad ys = 0 ↔ ∀ y ∈ ys, errI y = 0
 | [] => by simp [firstBad]
 | x :: xs => by
  have ih := firstBad_zero xs
  by_cases h : errI x = 0
  ·simp [firstBad, h, ih]
  ·simp [firstBad, h]
theorem firstBad_at : ∀ (ys : List IN) (i : Nat) (y : IN), ys[i]? = some y → (∀ z ∈ ys.take i, errI z = 0) → errI y ≠ 0 → firstBad ys = errI y
 | [], i, y, h, _, _ => by simp at h
 | z :: zs, 0, y, h, _, hy => by
  simp at h
  subst h
  simp [firstBad, hy]
 | z :: zs, i + 1, y, h, ha, hy => by
  have h0 := ha z (by simp)
  simp only [firstBad, h0, if_pos]
  exact firstBad_at zs i y (by simpa using h) (fun q hq => ha q (by simp [hq])) hy
theorem opB_len (k : Nat) (a : Int) (h0 : -9223372036854775808 ≤ a) (h1 : a < 9223372036854775808) : (opB k a).length ≤ 9 := by
 unfold opB
 split
 ·simp
 ·exact (Mth.form_length _ (fold_le a h0 h1).2).2
 ·exact (Mth.form_length _ (by omega)).2
theorem putI_len (x : IN) (h : x.Ok) : (putI x).length ≤ 18 := by
 have h1 := (Mth.form_length x.op (by have := h.1.2; omega)).2
 have h2 := opB_len (kOf x.op) x.a h.2.1 h.2.2
 simp only [putI, List.length_append]
 omega
theorem encB_len : ∀ (ys : List IN), (∀ y ∈ ys, y.Ok) → (encB ys).length ≤ 18 * ys.length
 | [], _ => by simp [encB]
 | y :: ys, h => by
  have h1 := putI_len y (h y (by simp))
  have h2 := encB_len ys (fun z hz => h z (by simp [hz]))
  simp only [encB, List.flatMap_cons, List.length_append, List.length_cons] at h2 ⊢
  omega
theorem encB_snoc (ys : List IN) (y : IN) : encB (ys ++ [y]) = encB ys ++ putI y := by simp [encB]
structure EnI (w wr : World) (a : Nat) (wv : Value) (s : St) : Prop where
 ws : WS wr a wv s
 kept : Kept (fun _ => False) w wr
 new : w.heap.size ≤ a ∧ ∀ g, wv.ownBlock = some g → w.heap.size ≤ g
theorem EnI.put {w wr w' : World} {a : Nat} {wv : Value} {s s' : St} {e : Ending} (h : EnI w wr a wv s) (hp : PutS a wv s' wr e w') : e = .returned (.tuple #[]) ∧ ∃ wv', EnI w w' a wv' s' ∧ Kept (fun k => k = a ∨ wv.ownBlock = some k) wr w' ∧ (∀ g, wv'.ownBlock = some g → wv.ownBlock = some g ∨ wr.heap.size ≤ g) := by
 obtain ⟨he, wv', h1, h2, h3⟩ := hp
 refine ⟨he, wv', ⟨h1, h.kept.step h2 (fun i hi e => ?_), h.new.1, fun g hg => ?_⟩, h2, h3⟩
 ·rcases e with rfl | e
  ·exact absurd h.new.1 (by omega)
  ·exact absurd (h.new.2 i e) (by omega)
 ·rcases h3 g hg with h4 | h4
  ·exact h.new.2 g h4
  ·have := h.kept.size
   omega
theorem EnI.step {w wr w' : World} {a : Nat} {wv : Value} {s : St} {S : Nat → Prop} (h : EnI w wr a wv s) (hk : Kept S wr w') (hS : ∀ i, i < wr.heap.size → ¬ S i) : EnI w w' a wv s :=
 ⟨h.ws.kept hk (hS a h.ws.size) (fun g hg => hS g (h.ws.lt g hg).1), h.kept.step hk (fun i hi e => absurd e (hS i (Nat.lt_of_lt_of_le hi h.kept.size))), h.new⟩
theorem ws_new (w : World) : EnI w (w.alloc (.cells #[.slice none 0 0, .int .i64 0] 168)) w.heap.size (.slice none 0 0) (.ok []) :=
 ⟨⟨⟨heap_alloc_new _ _, World.ownsRow_nil _ _ _ _, by simp [Value.ownBlock]⟩, by simp⟩, (Kept.refl _ _).alloc _, Nat.le_refl _, fun g hg => by simp [Value.ownBlock] at hg⟩
theorem num_ok (l : List Int) (n : Int) (h0 : 0 ≤ n) (h1 : n < 9223372036854775808) (hl : l.length ≤ 4194000) : St.num (.ok l) n = .ok (l ++ Mth.form n) := by
 have := (Mth.form_length n (by omega)).2
 unfold St.num
 rw [if_neg (by omega), put_ok _ _ (by omega)]
theorem fold_ok (l : List Int) (n : Int) (h0 : -9223372036854775808 ≤ n) (h1 : n < 9223372036854775808) (hl : l.length ≤ 4194000) : St.put (.ok l) (Mth.form (fold n)) = .ok (l ++ Mth.form (fold n)) := by
 have := (Mth.form_length (fold n) (fold_le n h0 h1).2).2
 rw [put_ok _ _ (by omega)]
def EncR (ys : List IN) (w : World) (e : Ending) (w' : World) : Prop :=
 Kept (fun _ => False) w w' ∧
 if encE ys = 0 then ∃ v', e = .returned (.tuple #[v', .int .i64 0]) ∧ w'.ownsRow w.heap.size 5 1 v' (encB ys).length ((encB ys).map (Value.int .u8))
 else e = .returned (.tuple #[.slice none 0 0, .int .i64 (encE ys)])
end Go.Proofs.YtpfmhibdmehlcaaGreatDoor

/-
 The document's Whole, Get, Limit, New.
-/
import Derived.Test.YtjdbmjkidljhpaaGreatDoorTMi
namespace Go.Proofs.YtjdbmjkidljhpaaGreatDoor
open Go.RowKit
set_option linter.unusedVariables false
set_option linter.unusedSimpArgs false
set_option maxRecDepth 100000
theorem whole_raw (k : Nat) (l : List Bl) (d : List Int) : wholeR k l d = ((findB l d).isSome && decide (frontOf k (rawB l d) = d)) := by
 unfold wholeR rawB
 cases findB l d <;> simp
theorem get_raw (k : Nat) (l : List Bl) (d : List Int) : getR k l d = if (findB l d).isSome then (if frontOf k (rawB l d) = d then 0 else 42) else 41 := by
 unfold getR rawB
 cases findB l d <;> simp
def gotB (k : Nat) (l : List Bl) (d : List Int) : List Int := if getR k l d = 0 then rawB l d else []
set_option maxHeartbeats 4000000 in
theorem whole_ref {w : World} {r : Nat} {lv : Value} {ρ : Rg} (h : Rst w r lv ρ) (k : Nat) (hk : ρ.wd = k) (h1 : 1 ≤ k) (h2 : k ≤ 32) (d : List Int) (hd : d.length = 32) : Calls Tryz.prog 45 #[.pointer (some ⟨r, 0, none⟩), dv d] w fun e w' => e = .returned (.bool (wholeR k ρ.l d)) ∧ Kept (fun _ => False) w w' := by
 have HDS := hid_of (size29_arr d hd)
 have HRW : Hid (∀ W, Rst W r lv ρ → Calls Tryz.prog 42 #[.pointer (some ⟨r, 0, none⟩), .agg (d.map (Value.int .u8)).toArray] W fun e w' => ∃ v, e = .returned (.tuple #[v, .bool (findB ρ.l d).isSome]) ∧ BIn w' v (rawB ρ.l d) ∧ (∀ g, v.ownBlock = some g → W.heap.size ≤ g) ∧ Kept (fun _ => False) W w') := fun W hW => raw_ref hW d hd
 have HEQ0 : Hid (∀ W : World, (Op.equalIn 10000 29 (.agg ((frontOf k (rawB ρ.l d)).map (Value.int .u8)).toArray) (.agg (d.map (Value.int .u8)).toArray)).run Tryz.prog W = .ok (decide (frontOf k (rawB ρ.l d) = d)) W) := fun W => run_eq_arr W 9998 29 32 _ d Tryz.underlying29 (frontOf_len k _ h2) hd
 have HOF0 : Hid (∀ (W : World) (v : Value), BIn W v (rawB ρ.l d) → Calls Tryz.prog 38 #[.int .i64 (k : Int), v] W fun e w' => e = .returned (.agg ((frontOf k (rawB ρ.l d)).map (Value.int .u8)).toArray) ∧ Kept (fun _ => False) W w') := fun W v hv => rof4_any k h1 h2 v _ W hv (h.rawok d).1 (by have := (h.rawok d).2; omega)
 have HKA : Hid (Kept (fun _ => False) w (w.alloc (.cells (d.map (Value.int .u8)).toArray 29))) := (Kept.refl _ w).alloc _
 have HBA : Hid ((w.alloc (.cells (d.map (Value.int .u8)).toArray 29)).heap[w.heap.size]? = some (.cells (d.map (Value.int .u8)).toArray 29 (0, 0))) := alloc_new _ _ rfl
 have HRS0 : Hid (Rst (w.alloc (.cells (d.map (Value.int .u8)).toArray 29)) r lv ρ) := h.same HKA.out
 have HC00 : Hid (∀ W, Kept (fun _ => False) w W → W.cell? ⟨r, 0, none⟩ = some (.int .i64 (k : Int))) := fun W hW => by rw [← hk]; exact (h.same hW).cell 0
 rw [whole_raw]
 unfold dv
 clear h hd hk
 generalize (d.map (Value.int .u8)).toArray = ds at *
 generalize ((frontOf k (rawB ρ.l d)).map (Value.int .u8)).toArray = fs at *
 generalize decide (frontOf k (rawB ρ.l d) = d) = tb at *
 cases hf : (findB ρ.l d).isSome with
 | false =>
  rw [hf] at HRW
  go_enter Tryz.func45, Tryz.ntmps45
  go_upto_region 1 with fail
  generalize w.alloc (.cells ds 29) = wA at *
  go_wp2_with (refine wpList_load_row rfl 29 _ rfl w.heap.size rfl 29 ds (0, 0) _ HBA.out Tryz.underlying29 rfl HDS.out ?_)
  refine (HRW.out _ HRS0.out).mono ?_
  rintro e w2 ⟨v, rfl, hbv, _, hk2⟩
  obtain ⟨vo, vc, rfl⟩ := hbv.form
  have HK2 := hid_of (HKA.out.trans hk2)
  generalize (rawB ρ.l d).length = nr at *
  clear hk2 hbv
  go_upto_region 2 with fail
  refine wp_region_held_drew (S := fun w' => True) (by kernel_rfl) trivial (fun hHeld => ?_)
  iterate 2
   refine tkn (v := ?_) 0 rfl ?_ ?_; rotate_left 1
   ·intro w hSw; go_simp; try with_reducible rfl
   try simp only [Act.put, tdy]
  iterate 5
   refine tkm 2 rfl ?_
   try simp only [Act.put, tdy]
  refine tku 8 rfl ?_
  try simp only [Act.put, tdy]
  refine wpAnyH_ready (rs := [7]) (by kernel_rfl) (by simp) ?_
  refine AllReadyH.cons rfl (fun K hK => ?_) .nil
  go_simp
  refine hK.out _ _ trivial (fun hHeld => ?_)
  clear hK K
  try simp only [Act.put, tdy]
  refine tku 9 rfl ?_
  try simp only [Act.put, tdy]
  iterate 2
   refine tkn (v := ?_) 10 rfl ?_ ?_; rotate_left 1
   ·intro w hSw; go_simp; try with_reducible rfl
   try simp only [Act.put, tdy]
  refine wpAnyH_done (by kernel_rfl) ?_ _
  have HK3 := hid_of HK2.out.drew
  clear hHeld
  go_wp2
  go_ret
  exact ⟨rfl, HK3.out⟩
 | true =>
  rw [hf] at HRW
  go_enter Tryz.func45, Tryz.ntmps45
  go_upto_region 1 with fail
  generalize w.alloc (.cells ds 29) = wA at *
  go_wp2_with (refine wpList_load_row rfl 29 _ rfl w.heap.size rfl 29 ds (0, 0) _ HBA.out Tryz.underlying29 rfl HDS.out ?_)
  refine (HRW.out _ HRS0.out).mono ?_
  rintro e w2 ⟨v, rfl, hbv, _, hk2⟩
  obtain ⟨vo, vc, rfl⟩ := hbv.form
  have HK2 := hid_of (HKA.out.trans hk2)
  have HC0 : Hid (∀ W, Kept (fun _ => False) w2 W → W.cell? ⟨r, 0, none⟩ = some (.int .i64 (k : Int))) := fun W hW => HC00.out W (HK2.out.trans hW)
  have HB2 : Hid (w2.heap[w.heap.size]? = some (.cells ds 29 (0, 0))) := (hk2.block _ (heap_lt HBA.out) (fun f => f)).trans HBA.out
  have HBX : Hid (∀ W, Kept (fun _ => False) w2 W → W.heap[w.heap.size]? = some (.cells ds 29 (0, 0))) := fun W hW => (hW.block _ (heap_lt HB2.out) (fun f => f)).trans HB2.out
  have HOF : Hid (∀ W, Kept (fun _ => False) w2 W → Calls Tryz.prog 38 #[.int .i64 (k : Int), .slice vo (rawB ρ.l d).length vc] W fun e w' => e = .returned (.agg fs) ∧ Kept (fun _ => False) W w') := fun W hW => HOF0.out W _ (hbv.kept2 hW (fun _ _ _ f => f))
  have HEQ := HEQ0
  clear hk2 hbv
  generalize (rawB ρ.l d).length = nr at *
  go_upto_region 2 with fail
  refine wp_region_held_drew (S := fun w' => Kept (fun _ => False) w2 w') (by kernel_rfl) ((Kept.refl _ _).drew) (fun hHeld => ?_)
  iterate 7
   refine tkn (v := ?_) 0 rfl ?_ ?_; rotate_left 1
   ·intro w hSw; have q0 := HC0.out w hSw; go_simp; try with_reducible rfl
   try simp only [Act.put, tdy]
  refine tkg 8 (.agg ds) rfl (yields_row (by rfl) 29 _ rfl w.heap.size rfl _ _ _ _ (fun w hSw => HBX.out w hSw) Tryz.underlying29 rfl HDS.out) ?_
  try simp only [Act.put, tdy]
  refine wpAnyH_ready (rs := [7]) (by kernel_rfl) (by simp) ?_
  refine AllReadyH.cons rfl (fun K hK => ?_) .nil
  go_simp
  refine (HOF.out _ ((Kept.refl _ _).drew)).mono ?_
  rintro e w5 ⟨rfl, hk5⟩
  have HK5 := hid_of (((Kept.refl (fun _ => False) w2).drew).trans hk5)
  refine hK.out _ _ HK5.out (fun hHeld => ?_)
  clear hK K hk5
  try simp only [Act.put, tdy]
  refine tkp (v := ?_) 9 rfl ?_ ?_; rotate_left 1
  ·intro w hSw; have hq := HEQ.out w; go_simp; try with_reducible rfl
  try simp only [Act.put, tdy]
  iterate 2
   refine tkn (v := ?_) 10 rfl ?_ ?_; rotate_left 1
   ·intro w hSw; go_simp; try with_reducible rfl
   try simp only [Act.put, tdy]
  refine wpAnyH_done (by kernel_rfl) ?_ _
  have HK3 := hid_of (HK2.out.trans HK5.out)
  clear hHeld HK5
  go_wp2
  go_ret
  exact ⟨by simp, HK3.out⟩
def Rg.get1 (ρ : Rg) : Rg := { ρ with gt := ρ.gt + 1 }
def Rg.put1 (ρ : Rg) : Rg := { ρ with pt := ρ.pt + 1 }
set_option maxHeartbeats 8000000 in
theorem get_ref {w : World} {r : Nat} {lv : Value} {ρ : Rg} (h : Rst w r lv ρ) (k : Nat) (hk : ρ.wd = k) (h1 : 1 ≤ k) (h2 : k ≤ 32) (d : List Int) (hd : d.length = 32) (hg0 : 0 ≤ ρ.gt) (hg1 : ρ.gt ≤ 1099511627776) : Calls Tryz.prog 40 #[.pointer (some ⟨r, 0, none⟩), dv d] w fun e w' => ∃ v, e = .returned (.tuple #[v, .int .i64 (getR k ρ.l d)]) ∧ BIn w' v (gotB k ρ.l d) ∧ Rst w' r lv ρ.get1 ∧ Kept (fun q => q = r) w w' := by
 have HDS := hid_of (size29_arr d hd)
 have HRW : Hid (∀ W, Rst W r lv ρ.get1 → Calls Tryz.prog 42 #[.pointer (some ⟨r, 0, none⟩), .agg (d.map (Value.int .u8)).toArray] W fun e w' => ∃ v, e = .returned (.tuple #[v, .bool (findB ρ.l d).isSome]) ∧ BIn w' v (rawB ρ.l d) ∧ (∀ g, v.ownBlock = some g → W.heap.size ≤ g) ∧ Kept (fun _ => False) W w') := fun W hW => raw_ref hW d hd
 have HEQ0 : Hid (∀ W : World, (Op.equalIn 10000 29 (.agg ((frontOf k (rawB ρ.l d)).map (Value.int .u8)).toArray) (.agg (d.map (Value.int .u8)).toArray)).run Tryz.prog W = .ok (decide (frontOf k (rawB ρ.l d) = d)) W) := fun W => run_eq_arr W 9998 29 32 _ d Tryz.underlying29 (frontOf_len k _ h2) hd
 have HOF0 : Hid (∀ (W : World) (v : Value), BIn W v (rawB ρ.l d) → Calls Tryz.prog 38 #[.int .i64 (k : Int), v] W fun e w' => e = .returned (.agg ((frontOf k (rawB ρ.l d)).map (Value.int .u8)).toArray) ∧ Kept (fun _ => False) W w') := fun W v hv => rof4_any k h1 h2 v _ W hv (h.rawok d).1 (by have := (h.rawok d).2; omega)
 have HKA : Hid (Kept (fun _ => False) w (w.alloc (.cells (d.map (Value.int .u8)).toArray 29))) := (Kept.refl _ w).alloc _
 have HBA : Hid ((w.alloc (.cells (d.map (Value.int .u8)).toArray 29)).heap[w.heap.size]? = some (.cells (d.map (Value.int .u8)).toArray 29 (0, 0))) := alloc_new _ _ rfl
 have HRS0 : Hid (Rst (w.alloc (.cells (d.map (Value.int .u8)).toArray 29)) r lv ρ) := h.same HKA.out
 have HST0 : Hid (Rst ((w.alloc (.cells (d.map (Value.int .u8)).toArray 29)).setCell ⟨r, 4, none⟩ (.int .i64 (ρ.gt + 1))) r lv ρ.get1 ∧ Kept (fun q => q = r) (w.alloc (.cells (d.map (Value.int .u8)).toArray 29)) ((w.alloc (.cells (d.map (Value.int .u8)).toArray 29)).setCell ⟨r, 4, none⟩ (.int .i64 (ρ.gt + 1)))) := HRS0.out.set (ρ' := ρ.get1) 4 _ rfl rfl
 have c4 : (w.alloc (.cells (d.map (Value.int .u8)).toArray 29)).cell? ⟨r, 4, none⟩ = some (.int .i64 ρ.gt) := HRS0.out.cell 4
 have f4 := HRS0.out.fz 4
 have hw1 : IntKind.i64.wrap (ρ.gt + 1) = ρ.gt + 1 := by rw [IntKind.wrap_i64]; omega
 have HRT : Hid (r ≠ w.heap.size) := by have := h.lt; show r ≠ w.heap.size; omega
 have hwd : ρ.get1.wd = k := hk
 have HWD := hid_of hwd
 have HGQ := hid_of (get_raw k ρ.l d)
 have HGG : Hid (gotB k ρ.l d = if getR k ρ.l d = 0 then rawB ρ.l d else []) := rfl
 generalize gotB k ρ.l d = gx at *
 generalize getR k ρ.l d = gq at *
 unfold dv
 clear h hd hk hwd
 generalize (d.map (Value.int .u8)).toArray = ds at *
 generalize ((frontOf k (rawB ρ.l d)).map (Value.int .u8)).toArray = fs at *
 go_enter Tryz.func40, Tryz.ntmps40
 go_upto_region 1 with fail
 generalize hwA : w.alloc (.cells ds 29) = wA at *
 go_upto_region 2 with fail
 have HB1 : Hid ((wA.setCell ⟨r, 4, none⟩ (.int .i64 (ρ.gt + 1))).heap[w.heap.size]? = some (.cells ds 29 (0, 0))) := (HST0.out.2.block _ (heap_lt HBA.out) (fun e => HRT.out e.symm)).trans HBA.out
 have HRS1 := hid_of HST0.out.1
 have HKB : Hid (Kept (fun q => q = r) w (wA.setCell ⟨r, 4, none⟩ (.int .i64 (ρ.gt + 1)))) := (HKA.out.mono (fun _ _ f => f.elim)).trans HST0.out.2
 clear HST0 c4 f4 hwA HRS0 HBA HKA
 generalize wA.setCell ⟨r, 4, none⟩ (.int .i64 (ρ.gt + 1)) = wB at *
 cases hf : (findB ρ.l d).isSome with
 | false =>
  rw [hf] at HRW
  go_wp2_with (refine wpList_load_row rfl 29 _ rfl w.heap.size rfl 29 ds (0, 0) _ HB1.out Tryz.underlying29 rfl HDS.out ?_)
  refine (HRW.out _ HRS1.out).mono ?_
  rintro e w2 ⟨v, rfl, hbv, _, hk2⟩
  obtain ⟨vo, vc, rfl⟩ := hbv.form
  have HK2 := hid_of (HKB.out.trans (hk2.mono (fun _ _ f => f.elim)))
  have HR2 := hid_of (HRS1.out.same hk2)
  clear hk2 hbv
  generalize (rawB ρ.l d).length = nr at *
  go_wp2
  go_ret2
  have e1 : gq = 41 := by rw [HGQ.out, hf]; rfl
  have e2 : gx = [] := by rw [HGG.out, e1]; rfl
  rw [e1, e2]
  exact ⟨_, rfl, ⟨none, 0, rfl, Nat.le_refl _, .inl rfl⟩, HR2.out, HK2.out⟩
 | true =>
  rw [hf] at HRW
  go_wp2_with (refine wpList_load_row rfl 29 _ rfl w.heap.size rfl 29 ds (0, 0) _ HB1.out Tryz.underlying29 rfl HDS.out ?_)
  refine (HRW.out _ HRS1.out).mono ?_
  rintro e w2 ⟨v, rfl, hbv, _, hk2⟩
  obtain ⟨vo, vc, hvv⟩ := hbv.form
  subst hvv
  have HK2 := hid_of (HKB.out.trans (hk2.mono (fun _ _ f => f.elim)))
  have HR2 := hid_of (HRS1.out.same hk2)
  have HC0 : Hid (∀ W, Kept (fun _ => False) w2 W → W.cell? ⟨r, 0, none⟩ = some (.int .i64 (k : Int))) := fun W hW => by rw [← HWD.out]; exact (HR2.out.same hW).cell 0
  have HB2 : Hid (w2.heap[w.heap.size]? = some (.cells ds 29 (0, 0))) := (hk2.block _ (heap_lt HB1.out) (fun f => f)).trans HB1.out
  have HBX : Hid (∀ W, Kept (fun _ => False) w2 W → W.heap[w.heap.size]? = some (.cells ds 29 (0, 0))) := fun W hW => (hW.block _ (heap_lt HB2.out) (fun f => f)).trans HB2.out
  have HOF : Hid (∀ W, Kept (fun _ => False) w2 W → Calls Tryz.prog 38 #[.int .i64 (k : Int), .slice vo (rawB ρ.l d).length vc] W fun e w' => e = .returned (.agg fs) ∧ Kept (fun _ => False) W w') := fun W hW => HOF0.out W _ (hbv.kept2 hW (fun _ _ _ f => f))
  have HBV := hid_of hbv
  have HEQ := HEQ0
  obtain ⟨nr, hnr⟩ : ∃ n, n = (rawB ρ.l d).length := ⟨_, rfl⟩
  rw [← hnr] at HOF HBV ⊢
  clear hk2 hbv HOF0 HEQ0
  by_cases hq : frontOf k (rawB ρ.l d) = d
  ·rw [show decide (frontOf k (rawB ρ.l d) = d) = true from decide_eq_true hq] at HEQ
   have HQ := hid_of hq
   clear hq hnr
   go_upto_region 5 with fail
   refine wp_region_held_drew (S := fun w' => Kept (fun _ => False) w2 w') (by kernel_rfl) ((Kept.refl _ _).drew) (fun hHeld => ?_)
   iterate 5
    refine tkn (v := ?_) 0 rfl ?_ ?_; rotate_left 1
    ·intro w hSw; have q0 := HC0.out w hSw; go_simp; try with_reducible rfl
    try simp only [Act.put, tdy]
   refine tkg 6 (.agg ds) rfl (yields_row (by rfl) 29 _ rfl w.heap.size rfl _ _ _ _ (fun w hSw => HBX.out w hSw) Tryz.underlying29 rfl HDS.out) ?_
   try simp only [Act.put, tdy]
   refine wpAnyH_ready (rs := [5]) (by kernel_rfl) (by simp) ?_
   refine AllReadyH.cons rfl (fun K hK => ?_) .nil
   go_simp
   refine (HOF.out _ ((Kept.refl _ _).drew)).mono ?_
   rintro e w5 ⟨rfl, hk5⟩
   have HK5 := hid_of (((Kept.refl (fun _ => False) w2).drew).trans hk5)
   refine hK.out _ _ HK5.out (fun hHeld => ?_)
   clear hK K hk5
   try simp only [Act.put, tdy]
   refine tkp (v := ?_) 7 rfl ?_ ?_; rotate_left 1
   ·intro w hSw; have hq := HEQ.out w; go_simp; try with_reducible rfl
   try simp only [Act.put, tdy]
   refine wpAnyH_done (by kernel_rfl) ?_ _
   have HK3 := hid_of (HK2.out.trans (HK5.out.mono (fun _ _ f => f.elim)))
   have HR3 := hid_of (HR2.out.same HK5.out)
   have HB3 := hid_of (HBV.out.kept2 HK5.out (fun _ _ _ f => f))
   clear hHeld HK5
   go_wp2
   go_ret2
   have e1 : gq = 0 := by rw [HGQ.out, hf, if_pos rfl, if_pos HQ.out]
   have e2 : gx = rawB ρ.l d := by rw [HGG.out, e1]; rfl
   rw [e1, e2]
   exact ⟨_, rfl, HB3.out, HR3.out, HK3.out⟩
  ·rw [show decide (frontOf k (rawB ρ.l d) = d) = false from decide_eq_false hq] at HEQ
   have HQ := hid_of hq
   clear hq hnr
   go_upto_region 5 with fail
   refine wp_region_held_drew (S := fun w' => Kept (fun _ => False) w2 w') (by kernel_rfl) ((Kept.refl _ _).drew) (fun hHeld => ?_)
   iterate 5
    refine tkn (v := ?_) 0 rfl ?_ ?_; rotate_left 1
    ·intro w hSw; have q0 := HC0.out w hSw; go_simp; try with_reducible rfl
    try simp only [Act.put, tdy]
   refine tkg 6 (.agg ds) rfl (yields_row (by rfl) 29 _ rfl w.heap.size rfl _ _ _ _ (fun w hSw => HBX.out w hSw) Tryz.underlying29 rfl HDS.out) ?_
   try simp only [Act.put, tdy]
   refine wpAnyH_ready (rs := [5]) (by kernel_rfl) (by simp) ?_
   refine AllReadyH.cons rfl (fun K hK => ?_) .nil
   go_simp
   refine (HOF.out _ ((Kept.refl _ _).drew)).mono ?_
   rintro e w5 ⟨rfl, hk5⟩
   have HK5 := hid_of (((Kept.refl (fun _ => False) w2).drew).trans hk5)
   refine hK.out _ _ HK5.out (fun hHeld => ?_)
   clear hK K hk5
   try simp only [Act.put, tdy]
   refine tkp (v := ?_) 7 rfl ?_ ?_; rotate_left 1
   ·intro w hSw; have hq := HEQ.out w; go_simp; try with_reducible rfl
   try simp only [Act.put, tdy]
   refine wpAnyH_done (by kernel_rfl) ?_ _
   have HK3 := hid_of (HK2.out.trans (HK5.out.mono (fun _ _ f => f.elim)))
   have HR3 := hid_of (HR2.out.same HK5.out)
   clear hHeld HK5
   go_wp2
   go_ret2
   have e1 : gq = 42 := by rw [HGQ.out, hf, if_pos rfl, if_neg HQ.out]
   have e2 : gx = [] := by rw [HGG.out, e1]; rfl
   rw [e1, e2]
   exact ⟨_, rfl, ⟨none, 0, rfl, Nat.le_refl _, .inl rfl⟩, HR3.out, HK3.out⟩
def limR (c : Int) : Int := if 0 ≤ c ∧ c ≤ 67108864 then 0 else 1
def Rg.lim (ρ : Rg) (c : Int) : Rg := if 0 ≤ c ∧ c ≤ 67108864 then { ρ with cp := c } else ρ
theorem limit_ref {w : World} {r : Nat} {lv : Value} {ρ : Rg} (h : Rst w r lv ρ) (n : Int) : Calls Tryz.prog 18 #[.pointer (some ⟨r, 0, none⟩), .int .i64 n] w fun e w' => e = .returned (.int .i64 (limR n)) ∧ Rst w' r lv (ρ.lim n) ∧ Kept (fun q => q = r) w w' := by
 unfold limR Rg.lim
 have c1 : w.cell? ⟨r, 1, none⟩ = some (.int .i64 ρ.cp) := h.cell 1
 have f1 := h.fz 1
 by_cases h0 : 0 ≤ n
 ·by_cases h1 : n ≤ 67108864
  ·rw [if_pos ⟨h0, h1⟩, if_pos ⟨h0, h1⟩]
   have HS := hid_of (h.set (ρ' := { ρ with cp := n }) 1 (.int .i64 n) rfl rfl)
   clear h
   go_enter Tryz.func18, Tryz.ntmps18
   go_wp2
   go_ret
   exact ⟨rfl, HS.out.1, HS.out.2⟩
  ·rw [if_neg (fun q => h1 q.2), if_neg (fun q => h1 q.2)]
   have HR := hid_of h
   clear h
   go_enter Tryz.func18, Tryz.ntmps18
   go_wp2
   go_ret
   exact ⟨rfl, HR.out, Kept.refl _ _⟩
 ·rw [if_neg (fun q => h0 q.1), if_neg (fun q => h0 q.1)]
  have HR := hid_of h
  clear h
  go_enter Tryz.func18, Tryz.ntmps18
  go_wp2
  go_ret
  exact ⟨rfl, HR.out, Kept.refl _ _⟩
def Rg.new (wd cp : Int) : Rg := ⟨wd, cp, 0, 0, 0, []⟩
theorem rst_new (w : World) (wd cp : Int) : Rst (w.alloc (.cells ((Rg.new wd cp).cells (.slice none 0 0)) 42)) w.heap.size (.slice none 0 0) (Rg.new wd cp) :=
 ⟨alloc_new w _ rfl, World.ownsRow_nil _ _ _ _, fun b hb => (by cases hb), fun b hb => (by cases hb), Nat.zero_le _⟩
theorem newr_ok (wd cp : Int) (w : World) (h1 : 1 ≤ wd) (h2 : wd ≤ 32) (h3 : 0 ≤ cp) (h4 : cp ≤ 67108864) :
  Calls Tryz.prog 14 #[.int .i64 wd, .int .i64 cp] w fun e w' => e = .returned (.tuple #[.pointer (some ⟨w.heap.size, 0, none⟩), .int .i64 0]) ∧ w' = w.alloc (.cells ((Rg.new wd cp).cells (.slice none 0 0)) 42) := by
 have l1 : ¬ wd < 1 := by omega
 have l2 : ¬ 32 < wd := by omega
 have l3 : ¬ cp < 0 := by omega
 have l4 : ¬ 67108864 < cp := by omega
 clear h1 h2 h3 h4
 go_enter Tryz.func14, Tryz.ntmps14
 go_wp2
 go_ret2
 exact ⟨rfl, rfl⟩
theorem newr_bad (wd cp : Int) (w : World) (h : ¬ ((1 ≤ wd ∧ wd ≤ 32) ∧ 0 ≤ cp ∧ cp ≤ 67108864)) :
  Calls Tryz.prog 14 #[.int .i64 wd, .int .i64 cp] w fun e w' => e = .returned (.tuple #[.pointer none, .int .i64 (if 1 ≤ wd ∧ wd ≤ 32 then 1 else 3)]) ∧ w' = w := by
 by_cases h1 : 1 ≤ wd
 ·by_cases h2 : wd ≤ 32
  ·rw [if_pos ⟨h1, h2⟩]
   have l1 : ¬ wd < 1 := by omega
   have l2 : ¬ 32 < wd := by omega
   by_cases h3 : 0 ≤ cp
   ·have l3 : ¬ cp < 0 := by omega
    have l4 : 67108864 < cp := by omega
    clear h h1 h2 h3
    go_enter Tryz.func14, Tryz.ntmps14
    go_wp2
    go_ret2
    exact ⟨rfl, rfl⟩
   ·have l3 : cp < 0 := by omega
    clear h h1 h2 h3
    go_enter Tryz.func14, Tryz.ntmps14
    go_wp2
    go_ret2
    exact ⟨rfl, rfl⟩
  ·rw [if_neg (fun q => h2 q.2)]
   have l1 : ¬ wd < 1 := by omega
   have l2 : 32 < wd := by omega
   clear h h1 h2
   go_enter Tryz.func14, Tryz.ntmps14
   go_wp2
   go_ret2
   exact ⟨rfl, rfl⟩
 ·rw [if_neg (fun q => h1 q.1)]
  have l1 : wd < 1 := by omega
  clear h h1
  go_enter Tryz.func14, Tryz.ntmps14
  go_wp2
  go_ret2
  exact ⟨rfl, rfl⟩
end Go.Proofs.YtjdbmjkidljhpaaGreatDoor

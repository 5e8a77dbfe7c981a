/-
 The document's Plant and Evict, by contract.
-/
import Derived.Test.YtjdbmjkidljhpaaGreatDoorTRput
import Derived.Test.YtjdbmjkidljhpaaGreatDoorTMe
namespace Go.Proofs.YtjdbmjkidljhpaaGreatDoor
open Go.RowKit
set_option linter.unusedVariables false
set_option linter.unusedSimpArgs false
set_option maxRecDepth 100000
set_option maxHeartbeats 8000000 in
theorem plantr_arg {w : World} {r : Nat} {lv : Value} {ρ : Rg} (h : Rst w r lv ρ) (d : List Int) (hd : d.length = 32) (hdr : ∀ x ∈ d, 0 ≤ x ∧ x < 256) (bv : Value) (xs : List Int) (hx : BIn w bv xs) (hxr : ∀ x ∈ xs, 0 ≤ x ∧ x < 256) (hn : xs.length ≤ 1048576) (hl0 : 0 ≤ ρ.la) (hl1 : ρ.la ≤ 1099511627776) (hfew : ρ.l.length < 1000000) (hf : fitsL d ρ.wd = false) : Calls Tryz.prog 36 #[.pointer (some ⟨r, 0, none⟩), dv d, bv] w fun e w' => e = .returned (.int .i64 1) ∧ Rst w' r lv ρ ∧ Kept (fun _ => False) w w' := by
 obtain ⟨bo, bc, rfl⟩ := hx.form
 have HDS := hid_of (size29_arr d hd)
 have HFT : Hid (∀ W, Calls Tryz.prog 61 #[.agg (d.map (Value.int .u8)).toArray, .int .i64 ρ.wd] W fun e w' => e = .returned (.bool (fitsL d ρ.wd)) ∧ Kept (fun _ => False) W w') := fun W => rfits_any d ρ.wd hd W
 have HRM : Hid (∀ W, Rst W r lv ρ → Calls Tryz.prog 58 #[.pointer (some ⟨r, 0, none⟩), .agg (d.map (Value.int .u8)).toArray, .int .i64 (xs.length : Int)] W fun e w' => e = .returned (.bool (roomB ρ d xs.length)) ∧ Kept (fun _ => False) W w') := fun W hW => room_ref hW _ hd xs.length hn
 have HLY : Hid (∀ W, Rst W r lv ρ → BIn W (.slice bo xs.length bc) xs → Calls Tryz.prog 59 #[.pointer (some ⟨r, 0, none⟩), .agg (d.map (Value.int .u8)).toArray, .slice bo xs.length bc] W fun e w' => (∃ v, e = .returned v) ∧ LayR W w' r lv ρ d xs) := fun W hW hv => lay_ref hW _ hd hdr _ xs hv hxr hn hl0 hl1 hfew
 have HKA : Hid (Kept (fun _ => False) w (w.alloc (.cells (d.map (Value.int .u8)).toArray 29))) := (Kept.refl _ w).alloc _
 have HBA : Hid ((w.alloc (.cells (d.map (Value.int .u8)).toArray 29)).heap[w.heap.size]? = some (.cells (d.map (Value.int .u8)).toArray 29 (0, 0))) := alloc_new _ _ rfl
 have HRA : Hid (Rst (w.alloc (.cells (d.map (Value.int .u8)).toArray 29)) r lv ρ) := h.same HKA.out
 have HXA := hid_of (hx.kept2 HKA.out (fun _ _ _ f => f))
 have HC0 : Hid (∀ W, Kept (fun _ => False) w W → W.cell? ⟨r, 0, none⟩ = some (.int .i64 ρ.wd)) := fun W hW => (h.same hW).cell 0
 have hPN : ¬ (1048576 : Int) < (xs.length : Int) := by omega
 have HRL : Hid (r < w.heap.size) := h.lt
 have HLVL : Hid (∀ q, lv.ownBlock = some q → q < w.heap.size) := h.bl
 rw [hf] at HFT
 unfold dv
 clear h hx hd hdr
 generalize (d.map (Value.int .u8)).toArray = ds at *
 go_enter Tryz.func36, Tryz.ntmps36
 go_upto_region 1 with fail
 generalize w.alloc (.cells ds 29) = wA at *
 refine wp_region_held_drew (S := fun w' => Kept (fun _ => False) wA w') (by kernel_rfl) ((Kept.refl _ _).drew) (fun hHeld => ?_)
 refine tkg 0 (.agg ds) rfl (yields_row (by rfl) 29 _ rfl w.heap.size rfl _ _ _ _ (fun w hSw => (hSw.block _ (heap_lt HBA.out) (fun f => f)).trans HBA.out) Tryz.underlying29 rfl HDS.out) ?_
 try simp only [Act.put, tdy]
 iterate 4
  refine tkn (v := ?_) 1 rfl ?_ ?_; rotate_left 1
  ·intro w hSw; have q0 := HC0.out w (HKA.out.trans hSw); go_simp; try with_reducible rfl
  try simp only [Act.put, tdy]
 refine wpAnyH_ready (rs := [5]) (by kernel_rfl) (by simp) ?_
 refine AllReadyH.cons rfl (fun K hK => ?_) .nil
 go_simp
 refine (HFT.out _).mono ?_
 rintro e w2 ⟨rfl, hk2⟩
 have HKW := hid_of (((Kept.refl (fun _ => False) wA).drew).trans hk2)
 refine hK.out _ _ HKW.out (fun hHeld => ?_)
 clear hK K hk2
 try simp only [Act.put, tdy]
 refine tkp (v := ?_) 6 rfl ?_ ?_; rotate_left 1
 ·intro w hSw; go_simp; try with_reducible rfl
 try simp only [Act.put, tdy]
 refine wpAnyH_done (by kernel_rfl) ?_ _
 have HR2 := hid_of (HRA.out.same HKW.out)
 have HK2 := hid_of (HKA.out.trans HKW.out)
 have HB2 : Hid (w2.heap[w.heap.size]? = some (.cells ds 29 (0, 0))) := (HKW.out.block _ (heap_lt HBA.out) (fun f => f)).trans HBA.out
 have HX2 := hid_of (HXA.out.kept2 HKW.out (fun _ _ _ f => f))
 clear hHeld HKW HRA HKA HBA HXA
 go_wp2
 go_ret
 exact ⟨rfl, HR2.out, HK2.out⟩
set_option maxHeartbeats 8000000 in
theorem plantr_full {w : World} {r : Nat} {lv : Value} {ρ : Rg} (h : Rst w r lv ρ) (d : List Int) (hd : d.length = 32) (hdr : ∀ x ∈ d, 0 ≤ x ∧ x < 256) (bv : Value) (xs : List Int) (hx : BIn w bv xs) (hxr : ∀ x ∈ xs, 0 ≤ x ∧ x < 256) (hn : xs.length ≤ 1048576) (hl0 : 0 ≤ ρ.la) (hl1 : ρ.la ≤ 1099511627776) (hfew : ρ.l.length < 1000000) (hf : fitsL d ρ.wd = true) (hr : roomB ρ d xs.length = false) : Calls Tryz.prog 36 #[.pointer (some ⟨r, 0, none⟩), dv d, bv] w fun e w' => e = .returned (.int .i64 43) ∧ Rst w' r lv ρ ∧ Kept (fun _ => False) w w' := by
 obtain ⟨bo, bc, rfl⟩ := hx.form
 have HDS := hid_of (size29_arr d hd)
 have HFT : Hid (∀ W, Calls Tryz.prog 61 #[.agg (d.map (Value.int .u8)).toArray, .int .i64 ρ.wd] W fun e w' => e = .returned (.bool (fitsL d ρ.wd)) ∧ Kept (fun _ => False) W w') := fun W => rfits_any d ρ.wd hd W
 have HRM : Hid (∀ W, Rst W r lv ρ → Calls Tryz.prog 58 #[.pointer (some ⟨r, 0, none⟩), .agg (d.map (Value.int .u8)).toArray, .int .i64 (xs.length : Int)] W fun e w' => e = .returned (.bool (roomB ρ d xs.length)) ∧ Kept (fun _ => False) W w') := fun W hW => room_ref hW _ hd xs.length hn
 have HLY : Hid (∀ W, Rst W r lv ρ → BIn W (.slice bo xs.length bc) xs → Calls Tryz.prog 59 #[.pointer (some ⟨r, 0, none⟩), .agg (d.map (Value.int .u8)).toArray, .slice bo xs.length bc] W fun e w' => (∃ v, e = .returned v) ∧ LayR W w' r lv ρ d xs) := fun W hW hv => lay_ref hW _ hd hdr _ xs hv hxr hn hl0 hl1 hfew
 have HKA : Hid (Kept (fun _ => False) w (w.alloc (.cells (d.map (Value.int .u8)).toArray 29))) := (Kept.refl _ w).alloc _
 have HBA : Hid ((w.alloc (.cells (d.map (Value.int .u8)).toArray 29)).heap[w.heap.size]? = some (.cells (d.map (Value.int .u8)).toArray 29 (0, 0))) := alloc_new _ _ rfl
 have HRA : Hid (Rst (w.alloc (.cells (d.map (Value.int .u8)).toArray 29)) r lv ρ) := h.same HKA.out
 have HXA := hid_of (hx.kept2 HKA.out (fun _ _ _ f => f))
 have HC0 : Hid (∀ W, Kept (fun _ => False) w W → W.cell? ⟨r, 0, none⟩ = some (.int .i64 ρ.wd)) := fun W hW => (h.same hW).cell 0
 have hPN : ¬ (1048576 : Int) < (xs.length : Int) := by omega
 have HRL : Hid (r < w.heap.size) := h.lt
 have HLVL : Hid (∀ q, lv.ownBlock = some q → q < w.heap.size) := h.bl
 rw [hf] at HFT
 rw [hr] at HRM
 unfold dv
 clear h hx hd hdr
 generalize (d.map (Value.int .u8)).toArray = ds at *
 go_enter Tryz.func36, Tryz.ntmps36
 go_upto_region 1 with fail
 generalize w.alloc (.cells ds 29) = wA at *
 refine wp_region_held_drew (S := fun w' => Kept (fun _ => False) wA w') (by kernel_rfl) ((Kept.refl _ _).drew) (fun hHeld => ?_)
 refine tkg 0 (.agg ds) rfl (yields_row (by rfl) 29 _ rfl w.heap.size rfl _ _ _ _ (fun w hSw => (hSw.block _ (heap_lt HBA.out) (fun f => f)).trans HBA.out) Tryz.underlying29 rfl HDS.out) ?_
 try simp only [Act.put, tdy]
 iterate 4
  refine tkn (v := ?_) 1 rfl ?_ ?_; rotate_left 1
  ·intro w hSw; have q0 := HC0.out w (HKA.out.trans hSw); go_simp; try with_reducible rfl
  try simp only [Act.put, tdy]
 refine wpAnyH_ready (rs := [5]) (by kernel_rfl) (by simp) ?_
 refine AllReadyH.cons rfl (fun K hK => ?_) .nil
 go_simp
 refine (HFT.out _).mono ?_
 rintro e w2 ⟨rfl, hk2⟩
 have HKW := hid_of (((Kept.refl (fun _ => False) wA).drew).trans hk2)
 refine hK.out _ _ HKW.out (fun hHeld => ?_)
 clear hK K hk2
 try simp only [Act.put, tdy]
 refine tkp (v := ?_) 6 rfl ?_ ?_; rotate_left 1
 ·intro w hSw; go_simp; try with_reducible rfl
 try simp only [Act.put, tdy]
 refine wpAnyH_done (by kernel_rfl) ?_ _
 have HR2 := hid_of (HRA.out.same HKW.out)
 have HK2 := hid_of (HKA.out.trans HKW.out)
 have HB2 : Hid (w2.heap[w.heap.size]? = some (.cells ds 29 (0, 0))) := (HKW.out.block _ (heap_lt HBA.out) (fun f => f)).trans HBA.out
 have HX2 := hid_of (HXA.out.kept2 HKW.out (fun _ _ _ f => f))
 clear hHeld HKW HRA HKA HBA HXA
 go_wp2_with (refine wpList_load_row rfl 29 _ rfl w.heap.size rfl 29 ds (0, 0) _ HB2.out Tryz.underlying29 rfl HDS.out ?_)
 refine (HRM.out _ HR2.out).mono ?_
 rintro e w7 ⟨rfl, hk7⟩
 have HR7 := hid_of (HR2.out.same hk7)
 have HK7 := hid_of (HK2.out.trans hk7)
 have HB7 : Hid (w7.heap[w.heap.size]? = some (.cells ds 29 (0, 0))) := (hk7.block _ (heap_lt HB2.out) (fun f => f)).trans HB2.out
 have HX7 := hid_of (HX2.out.kept2 hk7 (fun _ _ _ f => f))
 clear hk7 HR2 HK2 HB2 HX2
 go_wp2
 go_ret
 exact ⟨rfl, HR7.out, HK7.out⟩
set_option maxHeartbeats 8000000 in
theorem plantr_ok {w : World} {r : Nat} {lv : Value} {ρ : Rg} (h : Rst w r lv ρ) (d : List Int) (hd : d.length = 32) (hdr : ∀ x ∈ d, 0 ≤ x ∧ x < 256) (bv : Value) (xs : List Int) (hx : BIn w bv xs) (hxr : ∀ x ∈ xs, 0 ≤ x ∧ x < 256) (hn : xs.length ≤ 1048576) (hl0 : 0 ≤ ρ.la) (hl1 : ρ.la ≤ 1099511627776) (hfew : ρ.l.length < 1000000) (hf : fitsL d ρ.wd = true) (hr : roomB ρ d xs.length = true) : Calls Tryz.prog 36 #[.pointer (some ⟨r, 0, none⟩), dv d, bv] w fun e w' => e = .returned (.int .i64 0) ∧ LayR w w' r lv ρ d xs := by
 obtain ⟨bo, bc, rfl⟩ := hx.form
 have HDS := hid_of (size29_arr d hd)
 have HFT : Hid (∀ W, Calls Tryz.prog 61 #[.agg (d.map (Value.int .u8)).toArray, .int .i64 ρ.wd] W fun e w' => e = .returned (.bool (fitsL d ρ.wd)) ∧ Kept (fun _ => False) W w') := fun W => rfits_any d ρ.wd hd W
 have HRM : Hid (∀ W, Rst W r lv ρ → Calls Tryz.prog 58 #[.pointer (some ⟨r, 0, none⟩), .agg (d.map (Value.int .u8)).toArray, .int .i64 (xs.length : Int)] W fun e w' => e = .returned (.bool (roomB ρ d xs.length)) ∧ Kept (fun _ => False) W w') := fun W hW => room_ref hW _ hd xs.length hn
 have HLY : Hid (∀ W, Rst W r lv ρ → BIn W (.slice bo xs.length bc) xs → Calls Tryz.prog 59 #[.pointer (some ⟨r, 0, none⟩), .agg (d.map (Value.int .u8)).toArray, .slice bo xs.length bc] W fun e w' => (∃ v, e = .returned v) ∧ LayR W w' r lv ρ d xs) := fun W hW hv => lay_ref hW _ hd hdr _ xs hv hxr hn hl0 hl1 hfew
 have HKA : Hid (Kept (fun _ => False) w (w.alloc (.cells (d.map (Value.int .u8)).toArray 29))) := (Kept.refl _ w).alloc _
 have HBA : Hid ((w.alloc (.cells (d.map (Value.int .u8)).toArray 29)).heap[w.heap.size]? = some (.cells (d.map (Value.int .u8)).toArray 29 (0, 0))) := alloc_new _ _ rfl
 have HRA : Hid (Rst (w.alloc (.cells (d.map (Value.int .u8)).toArray 29)) r lv ρ) := h.same HKA.out
 have HXA := hid_of (hx.kept2 HKA.out (fun _ _ _ f => f))
 have HC0 : Hid (∀ W, Kept (fun _ => False) w W → W.cell? ⟨r, 0, none⟩ = some (.int .i64 ρ.wd)) := fun W hW => (h.same hW).cell 0
 have hPN : ¬ (1048576 : Int) < (xs.length : Int) := by omega
 have HRL : Hid (r < w.heap.size) := h.lt
 have HLVL : Hid (∀ q, lv.ownBlock = some q → q < w.heap.size) := h.bl
 rw [hf] at HFT
 rw [hr] at HRM
 unfold dv
 clear h hx hd hdr
 generalize (d.map (Value.int .u8)).toArray = ds at *
 go_enter Tryz.func36, Tryz.ntmps36
 go_upto_region 1 with fail
 generalize w.alloc (.cells ds 29) = wA at *
 refine wp_region_held_drew (S := fun w' => Kept (fun _ => False) wA w') (by kernel_rfl) ((Kept.refl _ _).drew) (fun hHeld => ?_)
 refine tkg 0 (.agg ds) rfl (yields_row (by rfl) 29 _ rfl w.heap.size rfl _ _ _ _ (fun w hSw => (hSw.block _ (heap_lt HBA.out) (fun f => f)).trans HBA.out) Tryz.underlying29 rfl HDS.out) ?_
 try simp only [Act.put, tdy]
 iterate 4
  refine tkn (v := ?_) 1 rfl ?_ ?_; rotate_left 1
  ·intro w hSw; have q0 := HC0.out w (HKA.out.trans hSw); go_simp; try with_reducible rfl
  try simp only [Act.put, tdy]
 refine wpAnyH_ready (rs := [5]) (by kernel_rfl) (by simp) ?_
 refine AllReadyH.cons rfl (fun K hK => ?_) .nil
 go_simp
 refine (HFT.out _).mono ?_
 rintro e w2 ⟨rfl, hk2⟩
 have HKW := hid_of (((Kept.refl (fun _ => False) wA).drew).trans hk2)
 refine hK.out _ _ HKW.out (fun hHeld => ?_)
 clear hK K hk2
 try simp only [Act.put, tdy]
 refine tkp (v := ?_) 6 rfl ?_ ?_; rotate_left 1
 ·intro w hSw; go_simp; try with_reducible rfl
 try simp only [Act.put, tdy]
 refine wpAnyH_done (by kernel_rfl) ?_ _
 have HR2 := hid_of (HRA.out.same HKW.out)
 have HK2 := hid_of (HKA.out.trans HKW.out)
 have HB2 : Hid (w2.heap[w.heap.size]? = some (.cells ds 29 (0, 0))) := (HKW.out.block _ (heap_lt HBA.out) (fun f => f)).trans HBA.out
 have HX2 := hid_of (HXA.out.kept2 HKW.out (fun _ _ _ f => f))
 clear hHeld HKW HRA HKA HBA HXA
 go_wp2_with (refine wpList_load_row rfl 29 _ rfl w.heap.size rfl 29 ds (0, 0) _ HB2.out Tryz.underlying29 rfl HDS.out ?_)
 refine (HRM.out _ HR2.out).mono ?_
 rintro e w7 ⟨rfl, hk7⟩
 have HR7 := hid_of (HR2.out.same hk7)
 have HK7 := hid_of (HK2.out.trans hk7)
 have HB7 : Hid (w7.heap[w.heap.size]? = some (.cells ds 29 (0, 0))) := (hk7.block _ (heap_lt HB2.out) (fun f => f)).trans HB2.out
 have HX7 := hid_of (HX2.out.kept2 hk7 (fun _ _ _ f => f))
 clear hk7 HR2 HK2 HB2 HX2
 go_wp2_with (refine wpList_load_row rfl 29 _ rfl w.heap.size rfl 29 ds (0, 0) _ HB7.out Tryz.underlying29 rfl HDS.out ?_)
 refine (HLY.out _ HR7.out HX7.out).mono ?_
 rintro e w8 ⟨⟨v8, rfl⟩, lv8, bv8, hr8, hk8, hl8, hb8⟩
 have hs8 := HK7.out.size
 have HFN : Hid (LayR w w8 r lv ρ d xs) := ⟨lv8, bv8, hr8, (HK7.out.mono (fun _ _ f => f.elim)).trans hk8, by rcases hl8 with h9 | h9; exact .inl h9; exact .inr (fun q hq => Nat.le_trans hs8 (h9 q hq)), fun g hg => Nat.le_trans hs8 (hb8 g hg)⟩
 clear hr8 hk8 hl8 hb8
 go_wp2
 go_ret
 exact ⟨rfl, HFN.out⟩
/-- What Evict leaves. -/
def DelR (w w' : World) (r : Nat) (lv : Value) (ρ : Rg) (d : List Int) : Prop :=
 ∃ lv', Rst w' r lv' { ρ with l := delB ρ.l d } ∧ Kept (OwnR r lv) w w' ∧ (lv' = lv ∨ ∀ q, lv'.ownBlock = some q → w.heap.size ≤ q)
/-- A blob less, in a row that is new. -/
theorem Rst.less {W W' : World} {r : Nat} {lv lv' : Value} {ρ : Rg} {lo : Nat} (h : Rst W r lv ρ) (l' : List Bl) (hsub : l'.Sublist ρ.l) (hlo : lo ≤ W.heap.size) (hold : ∀ b ∈ ρ.l, b.xs ≠ [] → ∀ q, b.bv.ownBlock = some q → q < lo)
  (hk : Kept (fun q => lo ≤ q) W W') (hrl : r < lo) (hrow : W'.ownsRow lo 50 34 lv' l'.length (bls l')) :
  Rst (W'.setCell ⟨r, 3, none⟩ lv') r lv' { ρ with l := l' } := by
 have hk2 := kept_set W' ⟨r, 3, none⟩ lv'
 have hblk : W'.heap[r]? = some (.cells (ρ.cells lv) 42 (0, 0)) := (hk.block r h.lt (by omega)).trans h.blk
 have hok : ∀ y ∈ l', BlOk W' y ∧ (y.xs ≠ [] → ∀ q, y.bv.ownBlock = some q → q < lo ∧ q ≠ r) := fun y hy' => by
  have hy := hsub.subset hy'
  exact ⟨(h.ok y hy).kept hk (fun h0 q hq => by have := hold y hy h0 q hq; omega), fun h0 q hq => ⟨hold y hy h0 q hq, (h.off y hy h0 q hq).1⟩⟩
 refine ⟨?_, ?_, fun y hy => ?_, fun y hy h0 q hq => ?_, Nat.le_trans hsub.length_le h.few⟩
 ·rw [set_block _ _ _ _ _ _ hblk]
  rfl
 ·refine hk2.ownsRow (own_lo hrow) (fun q hq e => ?_)
  have e' : q = r := e
  have := (hrow.lt q hq).1
  omega
 ·exact (hok y hy).1.kept hk2 (fun h0 q hq e => ((hok y hy).2 h0 q hq).2 e)
 ·obtain ⟨h1, h2⟩ := (hok y hy).2 h0 q hq
  exact ⟨h2, fun e => by have := (hrow.lt q e).1; omega⟩
set_option maxHeartbeats 8000000 in
theorem evict_ref {w : World} {r : Nat} {lv : Value} {ρ : Rg} (h : Rst w r lv ρ) (d : List Int) (hd : d.length = 32) : Calls Tryz.prog 48 #[.pointer (some ⟨r, 0, none⟩), dv d] w fun e w' => e = .returned (.bool (findB ρ.l d).isSome) ∧ DelR w w' r lv ρ d := by
 have HDS := hid_of (size29_arr d hd)
 have HPL : Hid (∀ W, Kept (fun _ => False) w W → Calls Tryz.prog 56 #[.pointer (some ⟨r, 0, none⟩), .agg (d.map (Value.int .u8)).toArray] W fun e w' => e = .returned (.tuple #[.int .i64 (atB ρ.l d : Int), .bool (findB ρ.l d).isSome]) ∧ Kept (fun _ => False) W w') := fun W hW => place_any (h.same hW) d hd
 have HKA : Hid (Kept (fun _ => False) w (w.alloc (.cells (d.map (Value.int .u8)).toArray 29))) := (Kept.refl _ w).alloc _
 have HBA : Hid ((w.alloc (.cells (d.map (Value.int .u8)).toArray 29)).heap[w.heap.size]? = some (.cells (d.map (Value.int .u8)).toArray 29 (0, 0))) := alloc_new _ _ rfl
 have HRS := hid_of h
 unfold dv
 clear h hd
 generalize (d.map (Value.int .u8)).toArray = ds at *
 cases hf : findB ρ.l d with
 | none =>
  have HFN : Hid (∀ W, Kept (fun _ => False) w W → DelR w W r lv ρ d) := fun W hW => ⟨lv, by rw [delB_none ρ.l d hf]; exact HRS.out.same hW, hW.mono (fun _ _ f => f.elim), .inl rfl⟩
  rw [hf] at HPL
  generalize atB ρ.l d = at_ at *
  go_enter Tryz.func48, Tryz.ntmps48
  go_upto_region 1 with fail
  generalize w.alloc (.cells ds 29) = wA at *
  go_wp2_with (refine wpList_load_row rfl 29 _ rfl w.heap.size rfl 29 ds (0, 0) _ HBA.out Tryz.underlying29 rfl HDS.out ?_)
  refine (HPL.out _ HKA.out).mono ?_
  rintro e w2 ⟨rfl, hk2⟩
  have HK2 := hid_of (HKA.out.trans hk2)
  clear hk2
  go_wp2
  go_ret
  exact ⟨rfl, HFN.out _ HK2.out⟩
 | some b =>
  have hat := (findB_some hf).1
  have hlt := (List.getElem?_eq_some_iff.1 hat).1
  obtain ⟨g, c, hlv⟩ := row_some HRS.out.row (by omega)
  subst hlv
  obtain ⟨n, hn⟩ : ∃ n, n = ρ.l.length := ⟨_, rfl⟩
  obtain ⟨k, hk⟩ : ∃ k, k = atB ρ.l d := ⟨_, rfl⟩
  rw [← hk, ← hn] at hlt
  have HDC : Hid (delB ρ.l d = ρ.l.take k ++ ρ.l.drop (k + 1)) := by unfold Hid; rw [delB_cut ρ.l d (by rw [hf]; rfl), hk]
  have HNN := hid_of hn
  rw [hf, ← hk] at HPL
  have hltI : (k : Int) < (n : Int) := by omega
  have hfew : n ≤ 1000000 := by rw [hn]; exact HRS.out.few
  have hnc : n ≤ c := by
   rcases HRS.out.row.2 with ⟨e, e2⟩ | ⟨g, cap, cur, e, _, _, hnc, _⟩
   ·have e3 : ρ.l.length = 0 := e2
    omega
   ·injection e with _ _ e5
    rw [hn, e5]
    exact hnc
  clear hf hat
  go_enter Tryz.func48, Tryz.ntmps48
  go_upto_region 1 with fail
  generalize w.alloc (.cells ds 29) = wA at *
  go_wp2_with (refine wpList_load_row rfl 29 _ rfl w.heap.size rfl 29 ds (0, 0) _ HBA.out Tryz.underlying29 rfl HDS.out ?_)
  refine (HPL.out _ HKA.out).mono ?_
  rintro e w5 ⟨rfl, hk5⟩
  have HK5 := hid_of (HKA.out.trans hk5)
  have HRS5 := hid_of (HRS.out.same HK5.out)
  clear hk5 HPL HBA HKA
  have c3 : w5.cell? ⟨r, 3, none⟩ = some (.slice (some ⟨g, 0, none⟩) n c) := by rw [hn]; exact HRS5.out.cell 3
  have hlen5 : ∀ b ∈ ρ.l, b.d.length = 32 := HRS5.out.k32
  have hone5 : ∀ u ∈ bls ρ.l, u.oneCell' = true := bls_one (fun b hb => (HRS5.out.ok b hb).bin.one)
  have hsplit : bls ρ.l = bls (ρ.l.take k) ++ bls (ρ.l.drop k) := by rw [← bls_app, List.take_append_drop]
  have hsplit2 : bls ρ.l = bls (ρ.l.take (k + 1)) ++ bls (ρ.l.drop (k + 1)) := by rw [← bls_app, List.take_append_drop]
  have hl1 : ∀ j, j ≤ n → (bls (ρ.l.take j)).length = j * 34 := fun j hj => by
   rw [bls_len (fun b hb => hlen5 b (List.mem_of_mem_take hb)), List.length_take]
   have : min j ρ.l.length = j := by omega
   rw [this]
  have hl2 : (bls (ρ.l.drop (k + 1))).length = (n - (k + 1)) * 34 := by
   rw [bls_len (fun b hb => hlen5 b (List.mem_of_mem_drop hb)), List.length_drop, hn]
  have hcells : ∀ W, Kept (fun q => w5.heap.size ≤ q) w5 W → ∀ j u, (bls ρ.l)[j]? = some u → W.cell? ⟨g, j, none⟩ = some u := fun W hW j u hu => by
   have := HRS5.out.row.cells (g := g) rfl j u hu
   rw [Addr.add_lit, Nat.zero_add] at this
   have hgl := HRS5.out.bl g rfl
   exact hW.cell this (fun e => by have e' : w5.heap.size ≤ g := e; omega)
  have HHO : Hid (∀ b ∈ ρ.l, b.xs ≠ [] → ∀ q, b.bv.ownBlock = some q → q < w5.heap.size) := fun b hb h0 q hq => (HRS5.out.ok b hb).bin.below h0 q hq
  obtain ⟨v7, w7, hr7, ho7, hk7⟩ := app_row (W := w5) (B := w5.heap.size) (World.ownsRow_nil _ _ _ _) (Nat.le_refl _) (some ⟨g, 0, none⟩) k c (bls (ρ.l.take k)) (hl1 k (by omega)) (fun q hq j u hu => by
   cases hq
   rw [Addr.add_lit, Nat.zero_add]
   exact hcells w5 (Kept.refl _ _) j u (by rw [hsplit, List.getElem?_append_left (by rw [hl1 k (by omega)]; have := (List.getElem?_eq_some_iff.1 hu).1; rw [hl1 k (by omega)] at this; omega)]; exact hu)) (fun e => by cases e) (fun u hu => hone5 u (by rw [hsplit]; exact List.mem_append_left _ hu)) (by omega)
  rw [Nat.zero_add, List.nil_append] at ho7
  have hk57 : Kept (fun q => w5.heap.size ≤ q) w5 w7 := hk7.mono (fun q _ e => by cases e)
  obtain ⟨v7o, v7c, rfl⟩ := row_form ho7
  have hrl5 : r < w5.heap.size := HRS5.out.lt
  have c37 : w7.cell? ⟨r, 3, none⟩ = some (.slice (some ⟨g, 0, none⟩) n c) := hk57.cell c3 (fun e => by have e' : w5.heap.size ≤ r := e; omega)
  have HR7 := hid_of hr7
  have hkI : (k : Int) ≤ (n : Int) := by omega
  have hncI : (n : Int) ≤ (c : Int) := by omega
  have hkcI : (k : Int) ≤ (c : Int) := by omega
  have hk1I : (k : Int) + 1 ≤ (n : Int) := by omega
  have hk1c : (k : Int) + 1 ≤ (c : Int) := by omega
  have hfI : (n : Int) ≤ 1000000 := by omega
  have hwk : IntKind.i64.wrap ((k : Int) + 1) = ((k + 1 : Nat) : Int) := by rw [IntKind.wrap_i64]; omega
  by_cases hck : c = k + 1
  ·subst hck
   have hnk : n = k + 1 := by omega
   obtain ⟨w9, v9, hr9r, ho9, hk59⟩ : ∃ w9 v9, (∀ p q, (Builtin.append_ #[40, 40] 40 #[.slice v7o k v7c, .slice p 0 q]).run Tryz.prog w7 = .ok v9 w9) ∧ w9.ownsRow w5.heap.size 50 34 v9 (k + (n - (k + 1))) (bls (ρ.l.take k) ++ bls (ρ.l.drop (k + 1))) ∧ Kept (fun q => w5.heap.size ≤ q) w5 w9 := by
    refine ⟨w7, _, fun p q => app_zero ho7 p q, ?_, hk57⟩
    have e1 : bls (ρ.l.drop (k + 1)) = [] := List.length_eq_zero_iff.1 (by rw [hl2, hnk, Nat.sub_self, Nat.zero_mul])
    rw [e1, List.append_nil, hnk, Nat.sub_self]
    exact ho7
   subst hnk
   have HFIN : Hid (Rst (w9.setCell ⟨r, 3, none⟩ v9) r v9 { ρ with l := delB ρ.l d }) := by
    have hsub : (delB ρ.l d).Sublist ρ.l := delB_sub _ _
    refine Rst.less (lo := w5.heap.size) HRS5.out (delB ρ.l d) hsub (Nat.le_refl _) HHO.out hk59 hrl5 ?_
    rw [HDC.out, bls_app]
    have e1 : (ρ.l.take k ++ ρ.l.drop (k + 1)).length = k + (k + 1 - (k + 1)) := by
     rw [List.length_append, List.length_take, List.length_drop, ← HNN.out]
     have : min k (k + 1) = k := by omega
     rw [this]
    rw [e1]
    exact ho9
   have HKF : Hid (Kept (OwnR r (.slice (some ⟨g, 0, none⟩) ρ.l.length (k + 1))) w (w9.setCell ⟨r, 3, none⟩ v9)) := ((HK5.out.mono (fun _ _ f => f.elim)).step hk59 (fun i hi e => by have e' : w5.heap.size ≤ i := e; have := HK5.out.size; omega)).trans ((kept_set w9 ⟨r, 3, none⟩ v9).mono (fun q _ e => .inl e))
   have HN9 : Hid (∀ q, v9.ownBlock = some q → w.heap.size ≤ q) := fun q hq => by have := (ho9.lt q hq).1; have := HK5.out.size; omega
   have c39 : w9.cell? ⟨r, 3, none⟩ = some (.slice (some ⟨g, 0, none⟩) (k + 1) (k + 1)) := hk59.cell c3 (fun e => by have e' : w5.heap.size ≤ r := e; omega)
   have hz9 : w9.frozen? ⟨r, 3, none⟩ = false := frozen_block _ _ _ _ _ ((hk59.block r hrl5 (fun e => by have e' : w5.heap.size ≤ r := e; omega)).trans HRS5.out.blk)
   obtain ⟨v9o, v9n, v9c, hv9⟩ : ∃ a b c, v9 = .slice a b c := by obtain ⟨a, b, e⟩ := row_form ho9; exact ⟨a, _, b, e⟩
   subst hv9
   have HR9 := hid_of hr9r
   clear hr9r ho9 hk59 hk7 ho7 hr7 hk57 hcells hsplit hsplit2 hl1 hl2 hone5 hlen5 HRS5 HK5 HHO HRS hn hk HNN HDC
   go_upto_region 5 with (at_builtin; refine wp_app rfl (.tmp 15) (.tmp 21) 40 40 rfl _ _ rfl rfl _ w7 HR7.out ?_)
   go_wp2_with (at_builtin; refine wp_app rfl (.tmp 24) (.tmp 31) 40 40 rfl _ _ rfl rfl _ w9 (HR9.out _ _) ?_)
   go_ret
   exact ⟨rfl, .slice v9o v9n v9c, HFIN.out, HKF.out, .inr HN9.out⟩
  ·obtain ⟨v9, w9, hr9r, ho9, hk9⟩ := app_row (W := w7) (B := w5.heap.size) ho7 hk57.size (some ⟨g, (k + 1) * 34, none⟩) (n - (k + 1)) (c - (k + 1)) (bls (ρ.l.drop (k + 1))) hl2 (fun q hq j u hu => by
    cases hq
    rw [Addr.add_mid]
    exact hcells w7 hk57 ((k + 1) * 34 + j) u (by rw [hsplit2, List.getElem?_append_right (by rw [hl1 (k + 1) (by omega)]; omega), hl1 (k + 1) (by omega), show (k + 1) * 34 + j - (k + 1) * 34 = j by omega]; exact hu)) (fun e => by cases e) (fun u hu => hone5 u (by rw [hsplit2]; exact List.mem_append_right _ hu)) (by omega)
   have hk59 : Kept (fun q => w5.heap.size ≤ q) w5 w9 := hk57.trans (hk9.mono (fun q _ e => (ho7.lt q e).1))
   have hckI : ¬ ((c : Int) = (k : Int) + 1) := by omega
   have HFIN : Hid (Rst (w9.setCell ⟨r, 3, none⟩ v9) r v9 { ρ with l := delB ρ.l d }) := by
    have hsub : (delB ρ.l d).Sublist ρ.l := delB_sub _ _
    refine Rst.less (lo := w5.heap.size) HRS5.out (delB ρ.l d) hsub (Nat.le_refl _) HHO.out hk59 hrl5 ?_
    rw [HDC.out, bls_app]
    have e1 : (ρ.l.take k ++ ρ.l.drop (k + 1)).length = k + (n - (k + 1)) := by
     rw [List.length_append, List.length_take, List.length_drop, ← HNN.out]
     have : min k (n) = k := by omega
     rw [this]
    rw [e1]
    exact ho9
   have HKF : Hid (Kept (OwnR r (.slice (some ⟨g, 0, none⟩) ρ.l.length c)) w (w9.setCell ⟨r, 3, none⟩ v9)) := ((HK5.out.mono (fun _ _ f => f.elim)).step hk59 (fun i hi e => by have e' : w5.heap.size ≤ i := e; have := HK5.out.size; omega)).trans ((kept_set w9 ⟨r, 3, none⟩ v9).mono (fun q _ e => .inl e))
   have HN9 : Hid (∀ q, v9.ownBlock = some q → w.heap.size ≤ q) := fun q hq => by have := (ho9.lt q hq).1; have := HK5.out.size; omega
   have c39 : w9.cell? ⟨r, 3, none⟩ = some (.slice (some ⟨g, 0, none⟩) n c) := hk59.cell c3 (fun e => by have e' : w5.heap.size ≤ r := e; omega)
   have hz9 : w9.frozen? ⟨r, 3, none⟩ = false := frozen_block _ _ _ _ _ ((hk59.block r hrl5 (fun e => by have e' : w5.heap.size ≤ r := e; omega)).trans HRS5.out.blk)
   obtain ⟨v9o, v9n, v9c, hv9⟩ : ∃ a b c, v9 = .slice a b c := by obtain ⟨a, b, e⟩ := row_form ho9; exact ⟨a, _, b, e⟩
   subst hv9
   have HR9 := hid_of hr9r
   clear hk9 hr9r ho9 hk59 hk7 ho7 hr7 hk57 hcells hsplit hsplit2 hl1 hl2 hone5 hlen5 HRS5 HK5 HHO HRS hn hk HNN HDC
   go_upto_region 5 with (at_builtin; refine wp_app rfl (.tmp 15) (.tmp 21) 40 40 rfl _ _ rfl rfl _ w7 HR7.out ?_)
   go_wp2_with (at_builtin; refine wp_app rfl (.tmp 24) (.tmp 31) 40 40 rfl _ _ rfl rfl _ w9 HR9.out ?_)
   go_ret
   exact ⟨rfl, .slice v9o v9n v9c, HFIN.out, HKF.out, .inr HN9.out⟩
end Go.Proofs.YtjdbmjkidljhpaaGreatDoor

/-
 World.asked, by contract.
-/
import Derived.Test.YtjdbmjkidljhpaaGreatDoorTWp
namespace Go.Proofs.YtjdbmjkidljhpaaGreatDoor
open Go.RowKit
set_option linter.unusedVariables false
set_option linter.unusedSimpArgs false
set_option maxRecDepth 100000
/-- Behind the digest, in World.asked. -/
structure AskS (w wB : World) (lo k n g s : Nat) (mv : Value) (σ : Sg) (r : Nat) (lv : Value) (ρ : Rg) (iv : Value) (p5 : Nat) (ds : Array Value) : Prop where
 two : Two wB lo k n s mv σ r lv ρ
 gs : ∀ W, Kept (OwnT s mv r lv) wB W → W.cell? ⟨g, 0, none⟩ = some (.pointer (some ⟨s, 0, none⟩)) ∧ W.cell? ⟨g, 1, none⟩ = some (.pointer (some ⟨r, 0, none⟩)) ∧ W.heap[p5]? = some (.cells ds 29 (0, 0))
 fin : ∀ w5 n', TwoTo wB w5 lo k n' s mv σ r lv ρ → WdTo w w5 lo k n' g s mv σ r lv ρ iv
theorem AskS.mk' {w : World} {lo k n g s : Nat} {mv : Value} {σ : Sg} {r : Nat} {lv : Value} {ρ : Rg} {iv : Value} {m : Nat} (h : Wd w lo k n g s mv σ r lv ρ iv m) {wB : World} (hkB : Kept (fun _ => False) w wB) {p5 : Nat} {ds : Array Value} (hq : wB.heap[p5]? = some (.cells ds 29 (0, 0))) (hq0 : w.heap.size ≤ p5) : AskS w wB lo k n g s mv σ r lv ρ iv p5 ds := by
 have hB := h.same hkB
 refine ⟨hB.two, fun W hW => ⟨hW.cell (cell_block _ g 0 _ _ _ hB.blk) hB.goff, hW.cell (cell_block _ g 1 _ _ _ hB.blk) hB.goff, (hW.block _ (heap_lt hq) (fun e => ?_)).trans hq⟩, fun w5 n' ht => h.called hkB ht⟩
 have := h.two.olt _ e
 omega
theorem TwoTo.post {w w1 w5 : World} {lo k n s : Nat} {mv : Value} {σ : Sg} {r : Nat} {lv : Value} {ρ : Rg} (h : TwoTo w w1 lo k n s mv σ r lv ρ) (hk : Kept (fun _ => False) w1 w5) : TwoTo w w5 lo k n s mv σ r lv ρ := by
 obtain ⟨a, b, c, d, h1, h2, h3, h4⟩ := h
 exact ⟨a, b, c, d, h1.same hk, h2.trans (hk.mono (fun _ _ f => f.elim)), h3, h4⟩
theorem TwoTo.keptT {w w5 : World} {lo k n s : Nat} {mv : Value} {σ : Sg} {r : Nat} {lv : Value} {ρ : Rg} (h : TwoTo w w5 lo k n s mv σ r lv ρ) : Kept (OwnT s mv r lv) w w5 := by
 obtain ⟨_, _, _, _, _, hk, _, _⟩ := h
 exact hk
theorem Two.has {w : World} {lo k n s : Nat} {mv : Value} {σ : Sg} {r : Nat} {lv : Value} {ρ : Rg} (h : Two w lo k n s mv σ r lv ρ) (d : List Int) (hd : d.length = 32) : (findB ρ.l d).isSome = (look σ.es d).isSome := by
 have := h.alk.lk d hd
 cases h1 : look σ.es d <;> cases h2 : findB ρ.l d <;> rw [h1, h2] at this <;> simp at this ⊢
theorem wide_r2 {r lo k n s : Nat} {mv : Value} {σ : Sg} {lv : Value} {ρ : Rg} {w : World} (h : Two w lo k n s mv σ r lv ρ) : r < w.heap.size := h.olt r (.inr (.inl rfl))
set_option maxHeartbeats 16000000 in
theorem wask_two {w : World} {lo k n g s : Nat} {mv : Value} {σ : Sg} {r : Nat} {lv : Value} {ρ : Rg} {iv : Value} {m : Nat} (h : Wd w lo k n g s mv σ r lv ρ iv m) (hn : n ≤ 900000) (t : Stp) (ht : t.Ok w) (hlow : Low lo t) (hbl : t.xs.length ≤ 8192) (hcl : t.ys.length ≤ 8192) (hkd : t.kd = 2) :
  Calls Tryz.prog 16 #[.pointer (some ⟨g, 0, none⟩), .agg t.cells.toArray] w fun e w' => e = .returned (.bool true) ∧ WdTo w w' lo k (n + 2) g s mv σ r lv ρ iv := by
 obtain ⟨bo, bc, co, cc, hbv, hcv, hc⟩ := Stp.st ht
 obtain ⟨cs, hcs⟩ : ∃ c, c = t.cells.toArray := ⟨_, rfl⟩
 rw [← hcs] at hc ⊢
 clear hcs
 have hkA : Kept (fun _ => False) w (w.alloc (.cells cs 31)) := (Kept.refl _ w).alloc _
 have hA := h.same hkA
 have hwr : (w.alloc (.cells cs 31)).cell? ⟨r, 0, none⟩ = some (.int .i64 (k : Int)) := by
  have := hA.two.rs.cell 0
  rw [show (ρ.cells lv)[0]? = some (.int .i64 ρ.wd) from rfl, hA.two.num.1] at this
  exact this
 have HDIG := hid_of (wdig_any (sv := .pointer (some ⟨s, 0, none⟩)) (iv := iv) hA.blk hwr h.two.k1.1 h.two.k1.2 t (ht.kept hlow hkA (fun _ _ f => f)) (by omega) cs hc hbv)
 clear hwr
 have hdl := Stp.dig_len (t := t) h.two.k1.2 ht.dl
 have hdr := Stp.dig_rng (t := t) h.two.k1.2 ht.dr
 have HBB : Hid ((w.alloc (.cells cs 31)).heap[w.heap.size]? = some (.cells cs 31 (0, 0))) := alloc_new _ _ rfl
 have HC := hid_of hc
 have HW := hid_of h
 have HKA := hid_of hkA
 have HTO := hid_of ht
 have HDSI := hid_of (size29_arr (t.dig k) hdl)
 have HOS : Hid (32 = ((t.dig k).map (Value.int .u8)).toArray.size) := by show 32 = _; simp [hdl]
 have hone := oneCells .u8 (t.dig k)
 obtain ⟨dg, hdg⟩ : ∃ d, d = t.dig k := ⟨_, rfl⟩
 rw [← hdg] at HDIG HDSI HOS hone hdl hdr
 clear hkA hA hc hdg ht h
 unfold dv at HDIG
 go_enter Tryz.func16, Tryz.ntmps16
 go_wp2_with (refine wpList_load_row rfl 31 _ rfl w.heap.size rfl 31 cs (0, 0) _ HBB.out Tryz.underlying31 rfl HC.out.size ?_)
 refine HDIG.out.mono ?_
 rintro e w1 ⟨rfl, hk1⟩
 clear HDIG
 have HK1 := hid_of (HKA.out.trans hk1)
 have HB1 : Hid (w1.heap[w.heap.size]? = some (.cells cs 31 (0, 0))) := (hk1.block _ (heap_lt HBB.out) (fun f => f)).trans HBB.out
 have hw1 : w.heap.size ≤ w1.heap.size := HK1.out.size
 have HW1 := hid_of hw1
 clear hk1 HKA HBB hw1
 have HZ : Hid ((w1.alloc (.cells z32 29)).heap[w1.heap.size]? = some (.cells z32 29 (0, 0))) := alloc_new _ _ rfl
 go_upto_region 2 with (refine wpList_store_row rfl 29 _ _ rfl w1.heap.size (dg.map (Value.int .u8)).toArray rfl rfl 29 _ HZ.out HDSI.out HOS.out hone ?_)
 have HBB : Hid (((w1.alloc (.cells z32 29)).setRow w1.heap.size (dg.map (Value.int .u8)).toArray).heap[w.heap.size]? = some (.cells cs 31 (0, 0))) := by
  have := heap_lt HB1.out
  exact (setRow_other _ _ _ _ (by omega)).trans (alloc_old HB1.out)
 have HQB := hid_of (setRow_heap (w1.alloc (.cells z32 29)) w1.heap.size _ (dg.map (Value.int .u8)).toArray 29 (0, 0) HZ.out)
 have HKB : Hid (Kept (fun _ => False) w ((w1.alloc (.cells z32 29)).setRow w1.heap.size (dg.map (Value.int .u8)).toArray)) := (HK1.out.alloc _).setRow (.inl HW1.out) _
 clear HK1 HB1 HZ
 generalize (w1.alloc (.cells z32 29)).setRow w1.heap.size (dg.map (Value.int .u8)).toArray = wB at *
 obtain ⟨p5, hp5⟩ : ∃ q, q = w1.heap.size := ⟨_, rfl⟩
 obtain ⟨p, hp⟩ : ∃ q, q = w.heap.size := ⟨_, rfl⟩
 rw [← hp] at HBB
 rw [← hp5] at HQB HW1
 try rw [← hp5]
 try rw [← hp]
 have HP0 : Hid (w.heap.size ≤ p) := by show _ ≤ p; omega
 clear hp hp5 w1
 have HPS := hid_of (AskS.mk' HW.out HKB.out HQB.out HW1.out)
 have c0 := (cell_block _ _ 0 _ _ _ HBB.out).trans HC.out.kd
 clear HBB HQB HKB HW1 HP0 HC HW
 have hkd2 : Kept (fun _ => False) wB wB.drew := (Kept.refl _ _).drew
 have HKD2 := hid_of hkd2
 clear hkd2
 rw [hkd] at c0
 obtain ⟨q, xs, hxr, hxl, hget⟩ := get_two (HPS.out.two.same HKD2.out) hn dg hdl
 have HGE := hid_of hget
 clear hget
 unfold dv at HGE
 generalize (dg.map (Value.int .u8)).toArray = dd at *
 go_upto_region 4 with fail
 clear c0
 refine wp_region_held_drew (S := fun w' => Kept (OwnT s mv r lv) wB w') (by kernel_rfl) ((Kept.refl _ _).drew) (fun hHeld => ?_)
 iterate 4
  refine tkn (v := ?_) 0 rfl ?_ ?_; rotate_left 1
  ·intro w hSw; obtain ⟨s1, s2, s3⟩ := HPS.out.gs w hSw; go_simp; try with_reducible rfl
  try simp only [Act.put, tdy]
 refine tkg 4 (.agg dd) rfl (yields_row (by rfl) 29 _ rfl p5 rfl _ _ _ _ (fun w hSw => (HPS.out.gs w hSw).2.2) Tryz.underlying29 rfl HDSI.out) ?_
 try simp only [Act.put, tdy]
 refine wpAnyH_ready (rs := [5]) (by kernel_rfl) (by simp) ?_
 refine AllReadyH.cons rfl (fun K hK => ?_) .nil
 go_simp
 refine (HGE.out).mono ?_
 rintro e w3 ⟨v, rfl, hb3, hfr, hk3, hnext⟩
 obtain ⟨vo, vc, rfl⟩ := hb3.form
 have HK23 : Hid (Kept (OwnT s mv r lv) wB w3) := (HKD2.out.mono (fun _ _ f => f.elim)).trans (hk3.mono (fun _ _ e => .inl (.inl e)))
 have HVB := hid_of hb3
 have HFR := hid_of hfr
 have HNX := hid_of hnext
 clear hb3 hfr hk3 hnext HGE
 refine hK.out _ _ HK23.out (fun hHeld => ?_)
 clear hK K
 try simp only [Act.put, tdy]
 iterate 5
  refine tkn (v := ?_) 6 rfl ?_ ?_; rotate_left 1
  ·intro w hSw; obtain ⟨s1, s2, s3⟩ := HPS.out.gs w hSw; go_simp; try with_reducible rfl
  try simp only [Act.put, tdy]
 refine wpAnyH_done (by kernel_rfl) ?_ _
 clear hHeld
 go_wp2
 refine wp_region_held_drew (S := fun w' => Kept (OwnT s mv r lv) wB w') (by kernel_rfl) HK23.out.drew (fun hHeld => ?_)
 iterate 4
  refine tkn (v := ?_) 0 rfl ?_ ?_; rotate_left 1
  ·intro w hSw; obtain ⟨s1, s2, s3⟩ := HPS.out.gs w hSw; go_simp; try with_reducible rfl
  try simp only [Act.put, tdy]
 refine tkg 4 (.agg dd) rfl (yields_row (by rfl) 29 _ rfl p5 rfl _ _ _ _ (fun w hSw => (HPS.out.gs w hSw).2.2) Tryz.underlying29 rfl HDSI.out) ?_
 try simp only [Act.put, tdy]
 refine wpAnyH_ready (rs := [5]) (by kernel_rfl) (by simp) ?_
 refine AllReadyH.cons rfl (fun K hK => ?_) .nil
 go_simp
 refine (HNX.out _ ((Kept.refl _ _).drew)).mono ?_
 rintro e w5 ⟨v2, rfl, hb5, hk5, ht5⟩
 obtain ⟨uo, uc, rfl⟩ := hb5.form
 have HT5 := hid_of (ht5.pre HKD2.out)
 have HVB5 := hid_of ((HVB.out.kept2 ((Kept.refl (fun _ => False) _).drew) (fun _ _ _ f => f)).kept2 hk5 (fun _ q hq e => by
   have h5 := HFR.out q hq
   have h6 := wide_r2 HPS.out.two
   have h7 := HKD2.out.size
   have e' : q = r := e
   omega))
 have HSM := hid_of (same_any _ _ xs xs _ HVB5.out hb5 (by unfold maxLen; omega))
 clear hb5 hk5 ht5 HVB HFR HNX HVB5
 refine hK.out _ _ HT5.out.keptT (fun hHeld => ?_)
 clear hK K
 try simp only [Act.put, tdy]
 iterate 5
  refine tkn (v := ?_) 6 rfl ?_ ?_; rotate_left 1
  ·intro w hSw; obtain ⟨s1, s2, s3⟩ := HPS.out.gs w hSw; go_simp; try with_reducible rfl
  try simp only [Act.put, tdy]
 refine wpAnyH_done (by kernel_rfl) ?_ _
 clear hHeld
 have hdt : decide (xs = xs) = true := decide_eq_true rfl
 rw [hdt] at HSM
 go_wp2_with fail
 refine HSM.out.mono ?_
 rintro e w6 ⟨rfl, hk6⟩
 have HT := hid_of (HT5.out.post hk6)
 clear hk6 HT5 HSM
 go_wp2
 go_ret
 exact ⟨rfl, HPS.out.fin _ _ HT.out⟩
set_option maxHeartbeats 16000000 in
theorem wask_three {w : World} {lo k n g s : Nat} {mv : Value} {σ : Sg} {r : Nat} {lv : Value} {ρ : Rg} {iv : Value} {m : Nat} (h : Wd w lo k n g s mv σ r lv ρ iv m) (hn : n ≤ 900000) (t : Stp) (ht : t.Ok w) (hlow : Low lo t) (hbl : t.xs.length ≤ 8192) (hcl : t.ys.length ≤ 8192) (hkd : t.kd = 3) :
  Calls Tryz.prog 16 #[.pointer (some ⟨g, 0, none⟩), .agg t.cells.toArray] w fun e w' => e = .returned (.bool true) ∧ WdTo w w' lo k (n + 2) g s mv σ r lv ρ iv := by
 obtain ⟨bo, bc, co, cc, hbv, hcv, hc⟩ := Stp.st ht
 obtain ⟨cs, hcs⟩ : ∃ c, c = t.cells.toArray := ⟨_, rfl⟩
 rw [← hcs] at hc ⊢
 clear hcs
 have hkA : Kept (fun _ => False) w (w.alloc (.cells cs 31)) := (Kept.refl _ w).alloc _
 have hA := h.same hkA
 have hwr : (w.alloc (.cells cs 31)).cell? ⟨r, 0, none⟩ = some (.int .i64 (k : Int)) := by
  have := hA.two.rs.cell 0
  rw [show (ρ.cells lv)[0]? = some (.int .i64 ρ.wd) from rfl, hA.two.num.1] at this
  exact this
 have HDIG := hid_of (wdig_any (sv := .pointer (some ⟨s, 0, none⟩)) (iv := iv) hA.blk hwr h.two.k1.1 h.two.k1.2 t (ht.kept hlow hkA (fun _ _ f => f)) (by omega) cs hc hbv)
 clear hwr
 have hdl := Stp.dig_len (t := t) h.two.k1.2 ht.dl
 have hdr := Stp.dig_rng (t := t) h.two.k1.2 ht.dr
 have HBB : Hid ((w.alloc (.cells cs 31)).heap[w.heap.size]? = some (.cells cs 31 (0, 0))) := alloc_new _ _ rfl
 have HC := hid_of hc
 have HW := hid_of h
 have HKA := hid_of hkA
 have HTO := hid_of ht
 have HDSI := hid_of (size29_arr (t.dig k) hdl)
 have HOS : Hid (32 = ((t.dig k).map (Value.int .u8)).toArray.size) := by show 32 = _; simp [hdl]
 have hone := oneCells .u8 (t.dig k)
 obtain ⟨dg, hdg⟩ : ∃ d, d = t.dig k := ⟨_, rfl⟩
 rw [← hdg] at HDIG HDSI HOS hone hdl hdr
 clear hkA hA hc hdg ht h
 unfold dv at HDIG
 go_enter Tryz.func16, Tryz.ntmps16
 go_wp2_with (refine wpList_load_row rfl 31 _ rfl w.heap.size rfl 31 cs (0, 0) _ HBB.out Tryz.underlying31 rfl HC.out.size ?_)
 refine HDIG.out.mono ?_
 rintro e w1 ⟨rfl, hk1⟩
 clear HDIG
 have HK1 := hid_of (HKA.out.trans hk1)
 have HB1 : Hid (w1.heap[w.heap.size]? = some (.cells cs 31 (0, 0))) := (hk1.block _ (heap_lt HBB.out) (fun f => f)).trans HBB.out
 have hw1 : w.heap.size ≤ w1.heap.size := HK1.out.size
 have HW1 := hid_of hw1
 clear hk1 HKA HBB hw1
 have HZ : Hid ((w1.alloc (.cells z32 29)).heap[w1.heap.size]? = some (.cells z32 29 (0, 0))) := alloc_new _ _ rfl
 go_upto_region 2 with (refine wpList_store_row rfl 29 _ _ rfl w1.heap.size (dg.map (Value.int .u8)).toArray rfl rfl 29 _ HZ.out HDSI.out HOS.out hone ?_)
 have HBB : Hid (((w1.alloc (.cells z32 29)).setRow w1.heap.size (dg.map (Value.int .u8)).toArray).heap[w.heap.size]? = some (.cells cs 31 (0, 0))) := by
  have := heap_lt HB1.out
  exact (setRow_other _ _ _ _ (by omega)).trans (alloc_old HB1.out)
 have HQB := hid_of (setRow_heap (w1.alloc (.cells z32 29)) w1.heap.size _ (dg.map (Value.int .u8)).toArray 29 (0, 0) HZ.out)
 have HKB : Hid (Kept (fun _ => False) w ((w1.alloc (.cells z32 29)).setRow w1.heap.size (dg.map (Value.int .u8)).toArray)) := (HK1.out.alloc _).setRow (.inl HW1.out) _
 clear HK1 HB1 HZ
 generalize (w1.alloc (.cells z32 29)).setRow w1.heap.size (dg.map (Value.int .u8)).toArray = wB at *
 obtain ⟨p5, hp5⟩ : ∃ q, q = w1.heap.size := ⟨_, rfl⟩
 obtain ⟨p, hp⟩ : ∃ q, q = w.heap.size := ⟨_, rfl⟩
 rw [← hp] at HBB
 rw [← hp5] at HQB HW1
 try rw [← hp5]
 try rw [← hp]
 have HP0 : Hid (w.heap.size ≤ p) := by show _ ≤ p; omega
 clear hp hp5 w1
 have HPS := hid_of (AskS.mk' HW.out HKB.out HQB.out HW1.out)
 have c0 := (cell_block _ _ 0 _ _ _ HBB.out).trans HC.out.kd
 clear HBB HQB HKB HW1 HP0 HC HW
 have hkd2 : Kept (fun _ => False) wB wB.drew := (Kept.refl _ _).drew
 have HKD2 := hid_of hkd2
 clear hkd2
 rw [hkd] at c0
 have hl1 := HPS.out.two.k1
 have HA : Hid (∀ W, Kept (fun _ => False) wB W → Calls Tryz.prog 41 #[.pointer (some ⟨s, 0, none⟩), dv dg] W fun e w' => ∃ v, e = .returned (.tuple #[v, .bool (look σ.es dg).isSome]) ∧ BIn w' v (rawX σ.es dg) ∧ (∀ g, v.ownBlock = some g → W.heap.size ≤ g) ∧ Kept (fun _ => False) W w') := fun W hW => raw_any (HPS.out.two.same hW).st dg hdl
 have HB : Hid (∀ W, Kept (fun _ => False) wB W → Calls Tryz.prog 42 #[.pointer (some ⟨r, 0, none⟩), dv dg] W fun e w' => ∃ v, e = .returned (.tuple #[v, .bool (look σ.es dg).isSome]) ∧ BIn w' v (rawX σ.es dg) ∧ (∀ g, v.ownBlock = some g → W.heap.size ≤ g) ∧ Kept (fun _ => False) W w') := fun W hW => by
  have h2 := HPS.out.two.same hW
  have := raw_ref h2.rs dg hdl
  rw [h2.has dg hdl, h2.raw dg hdl] at this
  exact this
 have HCC : Hid (∀ W, Kept (fun _ => False) wB W → Calls Tryz.prog 43 #[.pointer (some ⟨s, 0, none⟩), dv dg] W fun e w' => e = .returned (.bool (look σ.es dg).isSome) ∧ Kept (fun _ => False) W w') := fun W hW => has_any (HPS.out.two.same hW).st dg hdl
 have HD : Hid (∀ W, Kept (fun _ => False) wB W → Calls Tryz.prog 44 #[.pointer (some ⟨s, 0, none⟩), dv dg] W fun e w' => e = .returned (.bool (wholeB k σ.es dg)) ∧ Kept (fun _ => False) W w') := fun W hW => whole_any (HPS.out.two.same hW).st (HPS.out.two.same hW).laid k (HPS.out.two.same hW).sane.wd hl1.1 hl1.2 dg hdl
 have HE : Hid (∀ W, Kept (fun _ => False) wB W → Calls Tryz.prog 45 #[.pointer (some ⟨r, 0, none⟩), dv dg] W fun e w' => e = .returned (.bool (wholeB k σ.es dg)) ∧ Kept (fun _ => False) W w') := fun W hW => by
  have h2 := HPS.out.two.same hW
  have := whole_ref h2.rs k h2.num.1 hl1.1 hl1.2 dg hdl
  rw [h2.whole dg hdl] at this
  exact this
 have hrl : (rawX σ.es dg).length ≤ maxLen := by
  unfold rawX
  cases he : look σ.es dg with
  | none => exact Nat.zero_le _
  | some e =>
   have := (HPS.out.two.st.blob e (look_mem _ _ _ he).1).2.2.1
   show e.xs.length ≤ maxLen
   unfold maxLen
   omega
 have HRL := hid_of hrl
 clear hrl hl1
 unfold dv at HA HB HCC HD HE
 generalize rawX σ.es dg = xs at *
 generalize (look σ.es dg).isSome = sm at *
 generalize wholeB k σ.es dg = wh at *
 generalize (dg.map (Value.int .u8)).toArray = dd at *
 go_upto_region 8 with fail
 clear c0
 refine wp_region_held_drew (S := fun w' => Kept (fun _ => False) wB w') (by kernel_rfl) ((Kept.refl _ _).drew) (fun hHeld => ?_)
 iterate 4
  refine tkn (v := ?_) 0 rfl ?_ ?_; rotate_left 1
  ·intro w hSw; obtain ⟨s1, s2, s3⟩ := HPS.out.gs w (hSw.mono (fun _ _ f => f.elim)); go_simp; try with_reducible rfl
  try simp only [Act.put, tdy]
 refine tkg 4 (.agg dd) rfl (yields_row (by rfl) 29 _ rfl p5 rfl _ _ _ _ (fun w hSw => (HPS.out.gs w (hSw.mono (fun _ _ f => f.elim))).2.2) Tryz.underlying29 rfl HDSI.out) ?_
 try simp only [Act.put, tdy]
 refine wpAnyH_ready (rs := [5]) (by kernel_rfl) (by simp) ?_
 refine AllReadyH.cons rfl (fun K hK => ?_) .nil
 go_simp
 refine (HA.out _ HKD2.out).mono ?_
 rintro e w3 ⟨v, rfl, hb3, hfr, hk3⟩
 obtain ⟨vo, vc, rfl⟩ := hb3.form
 have HK23 : Hid (Kept (fun _ => False) wB w3) := HKD2.out.trans hk3
 have HVB := hid_of hb3
 clear hb3 hfr hk3 HA
 refine hK.out _ _ HK23.out (fun hHeld => ?_)
 clear hK K
 try simp only [Act.put, tdy]
 iterate 5
  refine tkn (v := ?_) 6 rfl ?_ ?_; rotate_left 1
  ·intro w hSw; obtain ⟨s1, s2, s3⟩ := HPS.out.gs w (hSw.mono (fun _ _ f => f.elim)); go_simp; try with_reducible rfl
  try simp only [Act.put, tdy]
 refine wpAnyH_done (by kernel_rfl) ?_ _
 clear hHeld
 go_wp2
 refine wp_region_held_drew (S := fun w' => Kept (fun _ => False) wB w') (by kernel_rfl) HK23.out.drew (fun hHeld => ?_)
 iterate 4
  refine tkn (v := ?_) 0 rfl ?_ ?_; rotate_left 1
  ·intro w hSw; obtain ⟨s1, s2, s3⟩ := HPS.out.gs w (hSw.mono (fun _ _ f => f.elim)); go_simp; try with_reducible rfl
  try simp only [Act.put, tdy]
 refine tkg 4 (.agg dd) rfl (yields_row (by rfl) 29 _ rfl p5 rfl _ _ _ _ (fun w hSw => (HPS.out.gs w (hSw.mono (fun _ _ f => f.elim))).2.2) Tryz.underlying29 rfl HDSI.out) ?_
 try simp only [Act.put, tdy]
 refine wpAnyH_ready (rs := [5]) (by kernel_rfl) (by simp) ?_
 refine AllReadyH.cons rfl (fun K hK => ?_) .nil
 go_simp
 refine (HB.out _ HK23.out.drew).mono ?_
 rintro e w5 ⟨v2, rfl, hb5, hfr, hk5⟩
 obtain ⟨uo, uc, rfl⟩ := hb5.form
 have HK25 : Hid (Kept (fun _ => False) wB w5) := HK23.out.drew.trans hk5
 have HVB5 := hid_of ((HVB.out.kept2 ((Kept.refl (fun _ => False) _).drew) (fun _ _ _ f => f)).kept2 hk5 (fun _ _ _ f => f))
 have HUB5 := hid_of hb5
 clear hb5 hk5 hfr HVB HB HK23
 refine hK.out _ _ HK25.out (fun hHeld => ?_)
 clear hK K
 try simp only [Act.put, tdy]
 iterate 5
  refine tkn (v := ?_) 6 rfl ?_ ?_; rotate_left 1
  ·intro w hSw; obtain ⟨s1, s2, s3⟩ := HPS.out.gs w (hSw.mono (fun _ _ f => f.elim)); go_simp; try with_reducible rfl
  try simp only [Act.put, tdy]
 refine wpAnyH_done (by kernel_rfl) ?_ _
 clear hHeld
 have hdt : decide (xs = xs) = true := decide_eq_true rfl
 have HSM : Hid (∀ W, Kept (fun _ => False) w5 W → Calls Tryz.prog 12 #[.slice vo xs.length vc, .slice uo xs.length uc] W fun e w' => e = .returned (.bool true) ∧ Kept (fun _ => False) W w') := fun W hW => by
  have := same_any _ _ xs xs W (HVB5.out.kept2 hW (fun _ _ _ f => f)) (HUB5.out.kept2 hW (fun _ _ _ f => f)) HRL.out
  rw [hdt] at this
  exact this
 clear HVB5 HUB5 HRL hdt
 go_wp2
 refine wp_region_held_drew (S := fun w' => Kept (fun _ => False) wB w') (by kernel_rfl) HK25.out.drew (fun hHeld => ?_)
 iterate 6
  refine tkn (v := ?_) 0 rfl ?_ ?_; rotate_left 1
  ·intro w hSw; obtain ⟨s1, s2, s3⟩ := HPS.out.gs w (hSw.mono (fun _ _ f => f.elim)); go_simp; try with_reducible rfl
  try simp only [Act.put, tdy]
 refine wpAnyH_ready (rs := [6]) (by kernel_rfl) (by simp) ?_
 refine AllReadyH.cons rfl (fun K hK => ?_) .nil
 go_simp
 refine (HSM.out _ ((Kept.refl _ _).drew)).mono ?_
 rintro e wa ⟨rfl, hka⟩
 have HKa : Hid (Kept (fun _ => False) wB wa) := HK25.out.drew.trans hka
 clear hka HSM
 refine hK.out _ _ HKa.out (fun hHeld => ?_)
 clear hK K
 try simp only [Act.put, tdy]
 iterate 6
  refine tkn (v := ?_) 7 rfl ?_ ?_; rotate_left 1
  ·intro w hSw; obtain ⟨s1, s2, s3⟩ := HPS.out.gs w (hSw.mono (fun _ _ f => f.elim)); go_simp; try with_reducible rfl
  try simp only [Act.put, tdy]
 refine tkg 13 (.agg dd) rfl (yields_row (by rfl) 29 _ rfl p5 rfl _ _ _ _ (fun w hSw => (HPS.out.gs w (hSw.mono (fun _ _ f => f.elim))).2.2) Tryz.underlying29 rfl HDSI.out) ?_
 try simp only [Act.put, tdy]
 refine tkp (v := ?_) 15 rfl ?_ ?_; rotate_left 1
 ·intro w hSw; obtain ⟨s1, s2, s3⟩ := HPS.out.gs w (hSw.mono (fun _ _ f => f.elim)); go_simp; try with_reducible rfl
 try simp only [Act.put, tdy]
 refine wpAnyH_ready (rs := [14]) (by kernel_rfl) (by simp) ?_
 refine AllReadyH.cons rfl (fun K hK => ?_) .nil
 go_simp
 refine (HCC.out _ HKa.out).mono ?_
 rintro e wb ⟨rfl, hkb⟩
 have HKb : Hid (Kept (fun _ => False) wB wb) := HKa.out.trans hkb
 clear hkb HCC HKa
 refine hK.out _ _ HKb.out (fun hHeld => ?_)
 clear hK K
 try simp only [Act.put, tdy]
 iterate 7
  refine tkn (v := ?_) 16 rfl ?_ ?_; rotate_left 1
  ·intro w hSw; obtain ⟨s1, s2, s3⟩ := HPS.out.gs w (hSw.mono (fun _ _ f => f.elim)); go_simp; try with_reducible rfl
  try simp only [Act.put, tdy]
 refine tkg 23 (.agg dd) rfl (yields_row (by rfl) 29 _ rfl p5 rfl _ _ _ _ (fun w hSw => (HPS.out.gs w (hSw.mono (fun _ _ f => f.elim))).2.2) Tryz.underlying29 rfl HDSI.out) ?_
 try simp only [Act.put, tdy]
 iterate 4
  refine tkn (v := ?_) 25 rfl ?_ ?_; rotate_left 1
  ·intro w hSw; obtain ⟨s1, s2, s3⟩ := HPS.out.gs w (hSw.mono (fun _ _ f => f.elim)); go_simp; try with_reducible rfl
  try simp only [Act.put, tdy]
 refine tkg 29 (.agg dd) rfl (yields_row (by rfl) 29 _ rfl p5 rfl _ _ _ _ (fun w hSw => (HPS.out.gs w (hSw.mono (fun _ _ f => f.elim))).2.2) Tryz.underlying29 rfl HDSI.out) ?_
 try simp only [Act.put, tdy]
 refine wpAnyH_ready (rs := [24]) (by kernel_rfl) (by simp) ?_
 refine AllReadyH.cons rfl (fun K hK => ?_) .nil
 go_simp
 refine (HD.out _ HKb.out).mono ?_
 rintro e wc ⟨rfl, hkc⟩
 have HKc : Hid (Kept (fun _ => False) wB wc) := HKb.out.trans hkc
 clear hkc HD HKb
 refine hK.out _ _ HKc.out (fun hHeld => ?_)
 clear hK K
 try simp only [Act.put, tdy]
 refine wpAnyH_ready (rs := [30]) (by kernel_rfl) (by simp) ?_
 refine AllReadyH.cons rfl (fun K hK => ?_) .nil
 go_simp
 refine (HE.out _ HKc.out).mono ?_
 rintro e wd ⟨rfl, hkd4⟩
 have HKd : Hid (Kept (fun _ => False) wB wd) := HKc.out.trans hkd4
 clear hkd4 HE HKc
 refine hK.out _ _ HKd.out (fun hHeld => ?_)
 clear hK K
 try simp only [Act.put, tdy]
 iterate 3
  refine tkn (v := ?_) 31 rfl ?_ ?_; rotate_left 1
  ·intro w hSw; obtain ⟨s1, s2, s3⟩ := HPS.out.gs w (hSw.mono (fun _ _ f => f.elim)); go_simp; try with_reducible rfl
  try simp only [Act.put, tdy]
 refine wpAnyH_done (by kernel_rfl) ?_ _
 clear hHeld
 have HT := hid_of (HPS.out.two.stay HKd.out)
 go_wp2
 go_ret
 exact ⟨rfl, HPS.out.fin _ _ HT.out⟩
set_option maxHeartbeats 16000000 in
theorem wask_four {w : World} {lo k n g s : Nat} {mv : Value} {σ : Sg} {r : Nat} {lv : Value} {ρ : Rg} {iv : Value} {m : Nat} (h : Wd w lo k n g s mv σ r lv ρ iv m) (hn : n ≤ 900000) (t : Stp) (ht : t.Ok w) (hlow : Low lo t) (hbl : t.xs.length ≤ 8192) (hcl : t.ys.length ≤ 8192) (hkd : t.kd = 4) :
  Calls Tryz.prog 16 #[.pointer (some ⟨g, 0, none⟩), .agg t.cells.toArray] w fun e w' => e = .returned (.bool true) ∧ WdTo w w' lo k (n + 2) g s mv σ r lv ρ iv := by
 obtain ⟨bo, bc, co, cc, hbv, hcv, hc⟩ := Stp.st ht
 obtain ⟨cs, hcs⟩ : ∃ c, c = t.cells.toArray := ⟨_, rfl⟩
 rw [← hcs] at hc ⊢
 clear hcs
 have hkA : Kept (fun _ => False) w (w.alloc (.cells cs 31)) := (Kept.refl _ w).alloc _
 have hA := h.same hkA
 have hwr : (w.alloc (.cells cs 31)).cell? ⟨r, 0, none⟩ = some (.int .i64 (k : Int)) := by
  have := hA.two.rs.cell 0
  rw [show (ρ.cells lv)[0]? = some (.int .i64 ρ.wd) from rfl, hA.two.num.1] at this
  exact this
 have HDIG := hid_of (wdig_any (sv := .pointer (some ⟨s, 0, none⟩)) (iv := iv) hA.blk hwr h.two.k1.1 h.two.k1.2 t (ht.kept hlow hkA (fun _ _ f => f)) (by omega) cs hc hbv)
 clear hwr
 have hdl := Stp.dig_len (t := t) h.two.k1.2 ht.dl
 have hdr := Stp.dig_rng (t := t) h.two.k1.2 ht.dr
 have HBB : Hid ((w.alloc (.cells cs 31)).heap[w.heap.size]? = some (.cells cs 31 (0, 0))) := alloc_new _ _ rfl
 have HC := hid_of hc
 have HW := hid_of h
 have HKA := hid_of hkA
 have HTO := hid_of ht
 have HDSI := hid_of (size29_arr (t.dig k) hdl)
 have HOS : Hid (32 = ((t.dig k).map (Value.int .u8)).toArray.size) := by show 32 = _; simp [hdl]
 have hone := oneCells .u8 (t.dig k)
 obtain ⟨dg, hdg⟩ : ∃ d, d = t.dig k := ⟨_, rfl⟩
 rw [← hdg] at HDIG HDSI HOS hone hdl hdr
 clear hkA hA hc hdg ht h
 unfold dv at HDIG
 go_enter Tryz.func16, Tryz.ntmps16
 go_wp2_with (refine wpList_load_row rfl 31 _ rfl w.heap.size rfl 31 cs (0, 0) _ HBB.out Tryz.underlying31 rfl HC.out.size ?_)
 refine HDIG.out.mono ?_
 rintro e w1 ⟨rfl, hk1⟩
 clear HDIG
 have HK1 := hid_of (HKA.out.trans hk1)
 have HB1 : Hid (w1.heap[w.heap.size]? = some (.cells cs 31 (0, 0))) := (hk1.block _ (heap_lt HBB.out) (fun f => f)).trans HBB.out
 have hw1 : w.heap.size ≤ w1.heap.size := HK1.out.size
 have HW1 := hid_of hw1
 clear hk1 HKA HBB hw1
 have HZ : Hid ((w1.alloc (.cells z32 29)).heap[w1.heap.size]? = some (.cells z32 29 (0, 0))) := alloc_new _ _ rfl
 go_upto_region 2 with (refine wpList_store_row rfl 29 _ _ rfl w1.heap.size (dg.map (Value.int .u8)).toArray rfl rfl 29 _ HZ.out HDSI.out HOS.out hone ?_)
 have HBB : Hid (((w1.alloc (.cells z32 29)).setRow w1.heap.size (dg.map (Value.int .u8)).toArray).heap[w.heap.size]? = some (.cells cs 31 (0, 0))) := by
  have := heap_lt HB1.out
  exact (setRow_other _ _ _ _ (by omega)).trans (alloc_old HB1.out)
 have HQB := hid_of (setRow_heap (w1.alloc (.cells z32 29)) w1.heap.size _ (dg.map (Value.int .u8)).toArray 29 (0, 0) HZ.out)
 have HKB : Hid (Kept (fun _ => False) w ((w1.alloc (.cells z32 29)).setRow w1.heap.size (dg.map (Value.int .u8)).toArray)) := (HK1.out.alloc _).setRow (.inl HW1.out) _
 clear HK1 HB1 HZ
 generalize (w1.alloc (.cells z32 29)).setRow w1.heap.size (dg.map (Value.int .u8)).toArray = wB at *
 obtain ⟨p5, hp5⟩ : ∃ q, q = w1.heap.size := ⟨_, rfl⟩
 obtain ⟨p, hp⟩ : ∃ q, q = w.heap.size := ⟨_, rfl⟩
 rw [← hp] at HBB
 rw [← hp5] at HQB HW1
 try rw [← hp5]
 try rw [← hp]
 have HP0 : Hid (w.heap.size ≤ p) := by show _ ≤ p; omega
 clear hp hp5 w1
 have HPS := hid_of (AskS.mk' HW.out HKB.out HQB.out HW1.out)
 have c0 := (cell_block _ _ 0 _ _ _ HBB.out).trans HC.out.kd
 clear HBB HQB HKB HW1 HP0 HC HW
 have hkd2 : Kept (fun _ => False) wB wB.drew := (Kept.refl _ _).drew
 have HKD2 := hid_of hkd2
 clear hkd2
 rw [hkd] at c0
 have HA : Hid (∀ W, Kept (fun _ => False) wB W → Calls Tryz.prog 25 #[.pointer (some ⟨s, 0, none⟩), dv dg] W fun e w' => e = .returned (.int .i64 (stampOf σ.es dg)) ∧ Kept (fun _ => False) W w') := fun W hW => stamp_any (HPS.out.two.same hW).st dg hdl
 have HB : Hid (∀ W, Kept (fun _ => False) wB W → Calls Tryz.prog 46 #[.pointer (some ⟨r, 0, none⟩), dv dg] W fun e w' => e = .returned (.int .i64 (stampOf σ.es dg)) ∧ Kept (fun _ => False) W w') := fun W hW => by
  have h2 := HPS.out.two.same hW
  have := stamp_ref h2.rs dg hdl
  rw [h2.stamp dg hdl] at this
  exact this
 unfold dv at HA HB
 generalize stampOf σ.es dg = sm at *
 generalize (dg.map (Value.int .u8)).toArray = dd at *
 go_upto_region 12 with fail
 clear c0
 refine wp_region_held_drew (S := fun w' => Kept (fun _ => False) wB w') (by kernel_rfl) ((Kept.refl _ _).drew) (fun hHeld => ?_)
 iterate 4
  refine tkn (v := ?_) 0 rfl ?_ ?_; rotate_left 1
  ·intro w hSw; obtain ⟨s1, s2, s3⟩ := HPS.out.gs w (hSw.mono (fun _ _ f => f.elim)); go_simp; try with_reducible rfl
  try simp only [Act.put, tdy]
 refine tkg 4 (.agg dd) rfl (yields_row (by rfl) 29 _ rfl p5 rfl _ _ _ _ (fun w hSw => (HPS.out.gs w (hSw.mono (fun _ _ f => f.elim))).2.2) Tryz.underlying29 rfl HDSI.out) ?_
 try simp only [Act.put, tdy]
 iterate 4
  refine tkn (v := ?_) 6 rfl ?_ ?_; rotate_left 1
  ·intro w hSw; obtain ⟨s1, s2, s3⟩ := HPS.out.gs w (hSw.mono (fun _ _ f => f.elim)); go_simp; try with_reducible rfl
  try simp only [Act.put, tdy]
 refine tkg 10 (.agg dd) rfl (yields_row (by rfl) 29 _ rfl p5 rfl _ _ _ _ (fun w hSw => (HPS.out.gs w (hSw.mono (fun _ _ f => f.elim))).2.2) Tryz.underlying29 rfl HDSI.out) ?_
 try simp only [Act.put, tdy]
 refine wpAnyH_ready (rs := [5]) (by kernel_rfl) (by simp) ?_
 refine AllReadyH.cons rfl (fun K hK => ?_) .nil
 go_simp
 refine (HA.out _ HKD2.out).mono ?_
 rintro e wa ⟨rfl, hka⟩
 have HKa : Hid (Kept (fun _ => False) wB wa) := HKD2.out.trans hka
 clear hka HA
 refine hK.out _ _ HKa.out (fun hHeld => ?_)
 clear hK K
 try simp only [Act.put, tdy]
 refine wpAnyH_ready (rs := [11]) (by kernel_rfl) (by simp) ?_
 refine AllReadyH.cons rfl (fun K hK => ?_) .nil
 go_simp
 refine (HB.out _ HKa.out).mono ?_
 rintro e wb ⟨rfl, hkb⟩
 have HKb : Hid (Kept (fun _ => False) wB wb) := HKa.out.trans hkb
 clear hkb HB HKa
 refine hK.out _ _ HKb.out (fun hHeld => ?_)
 clear hK K
 try simp only [Act.put, tdy]
 iterate 2
  refine tkn (v := ?_) 12 rfl ?_ ?_; rotate_left 1
  ·intro w hSw; obtain ⟨s1, s2, s3⟩ := HPS.out.gs w (hSw.mono (fun _ _ f => f.elim)); go_simp; try with_reducible rfl
  try simp only [Act.put, tdy]
 refine wpAnyH_done (by kernel_rfl) ?_ _
 clear hHeld
 have HT := hid_of (HPS.out.two.stay HKb.out)
 go_wp2
 go_ret
 exact ⟨rfl, HPS.out.fin _ _ HT.out⟩
set_option maxHeartbeats 16000000 in
theorem wask_five {w : World} {lo k n g s : Nat} {mv : Value} {σ : Sg} {r : Nat} {lv : Value} {ρ : Rg} {iv : Value} {m : Nat} (h : Wd w lo k n g s mv σ r lv ρ iv m) (hn : n ≤ 900000) (t : Stp) (ht : t.Ok w) (hlow : Low lo t) (hbl : t.xs.length ≤ 8192) (hcl : t.ys.length ≤ 8192) (hkd : t.kd = 5) :
  Calls Tryz.prog 16 #[.pointer (some ⟨g, 0, none⟩), .agg t.cells.toArray] w fun e w' => e = .returned (.bool true) ∧ WdTo w w' lo k (n + 2) g s mv σ r lv ρ iv := by
 obtain ⟨bo, bc, co, cc, hbv, hcv, hc⟩ := Stp.st ht
 obtain ⟨cs, hcs⟩ : ∃ c, c = t.cells.toArray := ⟨_, rfl⟩
 rw [← hcs] at hc ⊢
 clear hcs
 have hkA : Kept (fun _ => False) w (w.alloc (.cells cs 31)) := (Kept.refl _ w).alloc _
 have hA := h.same hkA
 have hwr : (w.alloc (.cells cs 31)).cell? ⟨r, 0, none⟩ = some (.int .i64 (k : Int)) := by
  have := hA.two.rs.cell 0
  rw [show (ρ.cells lv)[0]? = some (.int .i64 ρ.wd) from rfl, hA.two.num.1] at this
  exact this
 have HDIG := hid_of (wdig_any (sv := .pointer (some ⟨s, 0, none⟩)) (iv := iv) hA.blk hwr h.two.k1.1 h.two.k1.2 t (ht.kept hlow hkA (fun _ _ f => f)) (by omega) cs hc hbv)
 clear hwr
 have hdl := Stp.dig_len (t := t) h.two.k1.2 ht.dl
 have hdr := Stp.dig_rng (t := t) h.two.k1.2 ht.dr
 have HBB : Hid ((w.alloc (.cells cs 31)).heap[w.heap.size]? = some (.cells cs 31 (0, 0))) := alloc_new _ _ rfl
 have HC := hid_of hc
 have HW := hid_of h
 have HKA := hid_of hkA
 have HTO := hid_of ht
 have HDSI := hid_of (size29_arr (t.dig k) hdl)
 have HOS : Hid (32 = ((t.dig k).map (Value.int .u8)).toArray.size) := by show 32 = _; simp [hdl]
 have hone := oneCells .u8 (t.dig k)
 obtain ⟨dg, hdg⟩ : ∃ d, d = t.dig k := ⟨_, rfl⟩
 rw [← hdg] at HDIG HDSI HOS hone hdl hdr
 clear hkA hA hc hdg ht h
 unfold dv at HDIG
 go_enter Tryz.func16, Tryz.ntmps16
 go_wp2_with (refine wpList_load_row rfl 31 _ rfl w.heap.size rfl 31 cs (0, 0) _ HBB.out Tryz.underlying31 rfl HC.out.size ?_)
 refine HDIG.out.mono ?_
 rintro e w1 ⟨rfl, hk1⟩
 clear HDIG
 have HK1 := hid_of (HKA.out.trans hk1)
 have HB1 : Hid (w1.heap[w.heap.size]? = some (.cells cs 31 (0, 0))) := (hk1.block _ (heap_lt HBB.out) (fun f => f)).trans HBB.out
 have hw1 : w.heap.size ≤ w1.heap.size := HK1.out.size
 have HW1 := hid_of hw1
 clear hk1 HKA HBB hw1
 have HZ : Hid ((w1.alloc (.cells z32 29)).heap[w1.heap.size]? = some (.cells z32 29 (0, 0))) := alloc_new _ _ rfl
 go_upto_region 2 with (refine wpList_store_row rfl 29 _ _ rfl w1.heap.size (dg.map (Value.int .u8)).toArray rfl rfl 29 _ HZ.out HDSI.out HOS.out hone ?_)
 have HBB : Hid (((w1.alloc (.cells z32 29)).setRow w1.heap.size (dg.map (Value.int .u8)).toArray).heap[w.heap.size]? = some (.cells cs 31 (0, 0))) := by
  have := heap_lt HB1.out
  exact (setRow_other _ _ _ _ (by omega)).trans (alloc_old HB1.out)
 have HQB := hid_of (setRow_heap (w1.alloc (.cells z32 29)) w1.heap.size _ (dg.map (Value.int .u8)).toArray 29 (0, 0) HZ.out)
 have HKB : Hid (Kept (fun _ => False) w ((w1.alloc (.cells z32 29)).setRow w1.heap.size (dg.map (Value.int .u8)).toArray)) := (HK1.out.alloc _).setRow (.inl HW1.out) _
 clear HK1 HB1 HZ
 generalize (w1.alloc (.cells z32 29)).setRow w1.heap.size (dg.map (Value.int .u8)).toArray = wB at *
 obtain ⟨p5, hp5⟩ : ∃ q, q = w1.heap.size := ⟨_, rfl⟩
 obtain ⟨p, hp⟩ : ∃ q, q = w.heap.size := ⟨_, rfl⟩
 rw [← hp] at HBB
 rw [← hp5] at HQB HW1
 try rw [← hp5]
 try rw [← hp]
 have HP0 : Hid (w.heap.size ≤ p) := by show _ ≤ p; omega
 clear hp hp5 w1
 have HPS := hid_of (AskS.mk' HW.out HKB.out HQB.out HW1.out)
 have c0 := (cell_block _ _ 0 _ _ _ HBB.out).trans HC.out.kd
 clear HBB HQB HKB HW1 HP0 HC HW
 have hkd2 : Kept (fun _ => False) wB wB.drew := (Kept.refl _ _).drew
 have HKD2 := hid_of hkd2
 clear hkd2
 rw [hkd] at c0
 obtain ⟨q, hget⟩ := evict_two (HPS.out.two.same HKD2.out) hn dg hdl
 have HGE := hid_of hget
 clear hget
 unfold dv at HGE
 generalize (dg.map (Value.int .u8)).toArray = dd at *
 go_upto_region 13 with fail
 clear c0
 refine wp_region_held_drew (S := fun w' => Kept (OwnT s mv r lv) wB w') (by kernel_rfl) ((Kept.refl _ _).drew) (fun hHeld => ?_)
 iterate 4
  refine tkn (v := ?_) 0 rfl ?_ ?_; rotate_left 1
  ·intro w hSw; obtain ⟨s1, s2, s3⟩ := HPS.out.gs w hSw; go_simp; try with_reducible rfl
  try simp only [Act.put, tdy]
 refine tkg 4 (.agg dd) rfl (yields_row (by rfl) 29 _ rfl p5 rfl _ _ _ _ (fun w hSw => (HPS.out.gs w hSw).2.2) Tryz.underlying29 rfl HDSI.out) ?_
 try simp only [Act.put, tdy]
 iterate 4
  refine tkn (v := ?_) 6 rfl ?_ ?_; rotate_left 1
  ·intro w hSw; obtain ⟨s1, s2, s3⟩ := HPS.out.gs w hSw; go_simp; try with_reducible rfl
  try simp only [Act.put, tdy]
 refine tkg 10 (.agg dd) rfl (yields_row (by rfl) 29 _ rfl p5 rfl _ _ _ _ (fun w hSw => (HPS.out.gs w hSw).2.2) Tryz.underlying29 rfl HDSI.out) ?_
 try simp only [Act.put, tdy]
 refine wpAnyH_ready (rs := [5]) (by kernel_rfl) (by simp) ?_
 refine AllReadyH.cons rfl (fun K hK => ?_) .nil
 go_simp
 refine (HGE.out).mono ?_
 rintro e w3 ⟨rfl, hk3, hnext⟩
 have HK23 : Hid (Kept (OwnT s mv r lv) wB w3) := (HKD2.out.mono (fun _ _ f => f.elim)).trans (hk3.mono (fun _ _ e => .inl e))
 have HNX := hid_of hnext
 clear hk3 hnext HGE
 refine hK.out _ _ HK23.out (fun hHeld => ?_)
 clear hK K
 try simp only [Act.put, tdy]
 refine wpAnyH_ready (rs := [11]) (by kernel_rfl) (by simp) ?_
 refine AllReadyH.cons rfl (fun K hK => ?_) .nil
 go_simp
 refine (HNX.out _ (Kept.refl _ _)).mono ?_
 rintro e w5 ⟨rfl, ht5⟩
 have HT := hid_of (ht5.pre HKD2.out)
 clear ht5 HNX HK23
 refine hK.out _ _ HT.out.keptT (fun hHeld => ?_)
 clear hK K
 try simp only [Act.put, tdy]
 iterate 2
  refine tkn (v := ?_) 12 rfl ?_ ?_; rotate_left 1
  ·intro w hSw; obtain ⟨s1, s2, s3⟩ := HPS.out.gs w hSw; go_simp; try with_reducible rfl
  try simp only [Act.put, tdy]
 refine wpAnyH_done (by kernel_rfl) ?_ _
 clear hHeld
 go_wp2
 go_ret
 exact ⟨rfl, HPS.out.fin _ _ HT.out⟩
end Go.Proofs.YtjdbmjkidljhpaaGreatDoor

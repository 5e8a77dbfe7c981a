/-
 World.put, by contract.
-/
import Derived.Test.YtjdbmjkidljhpaaGreatDoorTMq
namespace Go.Proofs.YtjdbmjkidljhpaaGreatDoor
open Go.RowKit
set_option linter.unusedVariables false
set_option linter.unusedSimpArgs false
set_option maxRecDepth 100000
/-- Behind lend, in World.put. -/
structure PutS (w w2 : World) (lo k n g s : Nat) (mv : Value) (σ : Sg) (r : Nat) (lv : Value) (ρ : Rg) (iv : Value) (p p5 : Nat) (cs ds : Array Value) (gi m' : Nat) (bv : Value) (zs : List Int) : Prop where
 lent : Lent2 w2 lo k n g s mv σ r lv ρ gi m'
 mem : LentI w2 gi m' zs 5
 bin : BIn w2 bv zs
 low : zs ≠ [] → ∀ q, bv.ownBlock = some q → q < lo
 pv : w2.heap[p]? = some (.cells cs 31 (0, 0))
 pn : ¬ OwnT s mv r lv p
 qv : w2.heap[p5]? = some (.cells ds 29 (0, 0))
 qn : ¬ OwnT s mv r lv p5
 fin : ∀ w5 w6 n', TwoTo w2 w5 lo k n' s mv σ r lv ρ → Kept (fun _ => False) w5 w6 → Calls Tryz.prog 39 #[.slice (some ⟨gi, 0, none⟩) zs.length m', bv] w6 fun e w7 => e = .returned (.bool true) ∧ WdTo w w7 lo k n' g s mv σ r lv ρ iv
theorem PutS.byte {w w2 W : World} {lo k n g s : Nat} {mv : Value} {σ : Sg} {r : Nat} {lv : Value} {ρ : Rg} {iv : Value} {p p5 : Nat} {cs ds : Array Value} {gi m' : Nat} {bv : Value} {zs : List Int} (h : PutS w w2 lo k n g s mv σ r lv ρ iv p p5 cs ds gi m' bv zs) (hk : Kept (OwnT s mv r lv) w2 W) : BIn W bv zs :=
 h.bin.kept2 hk (fun h0 q hq ho => by have := h.low h0 q hq; have := h.lent.two.base q ho; omega)
theorem TwoTo.pre {w w1 w5 : World} {lo k n s : Nat} {mv : Value} {σ : Sg} {r : Nat} {lv : Value} {ρ : Rg} (h : TwoTo w1 w5 lo k n s mv σ r lv ρ) (hk : Kept (fun _ => False) w w1) : TwoTo w w5 lo k n s mv σ r lv ρ := by
 obtain ⟨a, b, c, d, h1, h2, h3, h4⟩ := h
 have hs := hk.size
 refine ⟨a, b, c, d, h1, (hk.mono (fun _ _ f => f.elim)).trans h2, fun q hq => ?_, fun q hq => ?_⟩
 ·rcases h3 q hq with h | h
  ·exact .inl h
  ·exact .inr (by omega)
 ·rcases h4 q hq with h | h
  ·exact .inl h
  ·exact .inr (by omega)
theorem PutS.mk' {w : World} {lo k n g s : Nat} {mv : Value} {σ : Sg} {r : Nat} {lv : Value} {ρ : Rg} {iv : Value} {m : Nat} (h : Wd w lo k n g s mv σ r lv ρ iv m) {wB w2 : World} (hkB : Kept (fun _ => False) w wB) {p p5 : Nat} {cs ds : Array Value} (hp : wB.heap[p]? = some (.cells cs 31 (0, 0))) (hp0 : w.heap.size ≤ p) (hq : wB.heap[p5]? = some (.cells ds 29 (0, 0))) (hq0 : w.heap.size ≤ p5) {bv : Value} {zs : List Int} (hb : BIn w bv zs) (hlow : zs ≠ [] → ∀ q, bv.ownBlock = some q → q < lo)
  {gi m' : Nat} (hl : LentI w2 gi m' zs 5) (hg : w2.heap[g]? = some (.cells (wcells s r (.slice (some ⟨gi, 0, none⟩) m' m')) 36 (0, 0))) (hm : m' ≤ 100000) (hk2 : Kept (fun q => q = g ∨ iv.ownBlock = some q) wB w2) (hgi : iv.ownBlock = some gi ∨ wB.heap.size ≤ gi) :
  PutS w w2 lo k n g s mv σ r lv ρ iv p p5 cs ds gi m' bv zs := by
 have hL := h.lent hkB hl hg hm hk2 hgi
 have hgl := heap_lt h.blk
 have new : ∀ q, w.heap.size ≤ q → ¬ (q = g ∨ iv.ownBlock = some q) := fun q hq e => by
  rcases e with e | e
  ·omega
  ·have := h.olt q (.inr (.inr e)); omega
 have newT : ∀ q, w.heap.size ≤ q → ¬ OwnT s mv r lv q := fun q hq e => by have := h.two.olt q e; omega
 have hb2 : BIn w2 bv zs := (hb.kept2 hkB (fun _ _ _ f => f)).kept2 hk2 (fun h0 q hq e => by
  have h5 := hlow h0 q hq
  rcases e with rfl | e
  ·have := h.gl.1; omega
  ·have := h.gl.2 q e; omega)
 refine ⟨hL, hl, hb2, hlow, (hk2.block p (heap_lt hp) (new p hp0)).trans hp, newT p hp0, (hk2.block p5 (heap_lt hq) (new p5 hq0)).trans hq, newT p5 hq0, fun w5 w6 n' ht hk6 => ?_⟩
 obtain ⟨_, _, _, _, _, hk5, _, _⟩ := id ht
 have hb6 := (hb2.kept2 hk5 (fun h0 q hq ho => by have := hlow h0 q hq; have := hL.two.base q ho; omega)).kept2 hk6 (fun _ _ _ f => f)
 refine (back_any ((hl.kept hk5 hL.off.1).kept hk6 (fun f => f)) hm bv hb6).mono fun e w7 ⟨he, hi, hk7⟩ => ⟨he, ?_⟩
 exact h.ended hkB hL hk2 hgi ht hi ((hk6.mono (fun _ _ f => f.elim)).trans hk7)
set_option maxHeartbeats 16000000 in
theorem wput_one {w : World} {lo k n g s : Nat} {mv : Value} {σ : Sg} {r : Nat} {lv : Value} {ρ : Rg} {iv : Value} {m : Nat} (h : Wd w lo k n g s mv σ r lv ρ iv m) (hn : n ≤ 900000) (t : Stp) (ht : t.Ok w) (hlow : Low lo t) (hbl : t.xs.length ≤ 8192) (hcl : t.ys.length ≤ 8192) (hkd : t.kd = 1) :
  Calls Tryz.prog 15 #[.pointer (some ⟨g, 0, none⟩), .agg t.cells.toArray] w fun e w' => e = .returned (.bool true) ∧ WdTo w w' lo k (n + 2) g s mv σ r lv ρ iv := by
 obtain ⟨bo, bc, co, cc, hbv, hcv, hc⟩ := Stp.st ht
 obtain ⟨cs, hcs⟩ : ∃ c, c = t.cells.toArray := ⟨_, rfl⟩
 rw [← hcs] at hc ⊢
 clear hcs
 have hkA : Kept (fun _ => False) w (w.alloc (.cells cs 31)) := (Kept.refl _ w).alloc _
 have hA := h.same hkA
 have hwr : (w.alloc (.cells cs 31)).cell? ⟨r, 0, none⟩ = some (.int .i64 (k : Int)) := by
  have := hA.two.rs.cell 0
  rw [show (ρ.cells lv)[0]? = some (.int .i64 ρ.wd) from rfl, hA.two.num.1] at this
  exact this
 have HDIG := hid_of (wdig_any (sv := .pointer (some ⟨s, 0, none⟩)) (iv := iv) hA.blk hwr h.two.k1.1 h.two.k1.2 t (ht.kept hlow hkA (fun _ _ f => f)) (by omega) cs hc hbv)
 clear hwr
 have hdl := Stp.dig_len (t := t) h.two.k1.2 ht.dl
 have hdr := Stp.dig_rng (t := t) h.two.k1.2 ht.dr
 have HBB : Hid ((w.alloc (.cells cs 31)).heap[w.heap.size]? = some (.cells cs 31 (0, 0))) := alloc_new _ _ rfl
 have HC := hid_of hc
 have HW := hid_of h
 have HKA := hid_of hkA
 have HTO := hid_of ht
 have HDSI := hid_of (size29_arr (t.dig k) hdl)
 have HOS : Hid (32 = ((t.dig k).map (Value.int .u8)).toArray.size) := by show 32 = _; simp [hdl]
 have hone := oneCells .u8 (t.dig k)
 obtain ⟨dg, hdg⟩ : ∃ d, d = t.dig k := ⟨_, rfl⟩
 rw [← hdg] at HDIG HDSI HOS hone hdl hdr
 clear hkA hA hc hdg ht h
 unfold dv at HDIG
 go_enter Tryz.func15, Tryz.ntmps15
 go_wp2_with (refine wpList_load_row rfl 31 _ rfl w.heap.size rfl 31 cs (0, 0) _ HBB.out Tryz.underlying31 rfl HC.out.size ?_)
 refine HDIG.out.mono ?_
 rintro e w1 ⟨rfl, hk1⟩
 clear HDIG
 have HK1 := hid_of (HKA.out.trans hk1)
 have HB1 : Hid (w1.heap[w.heap.size]? = some (.cells cs 31 (0, 0))) := (hk1.block _ (heap_lt HBB.out) (fun f => f)).trans HBB.out
 have hw1 : w.heap.size ≤ w1.heap.size := HK1.out.size
 have HW1 := hid_of hw1
 clear hk1 HKA HBB hw1
 have HZ : Hid ((w1.alloc (.cells z32 29)).heap[w1.heap.size]? = some (.cells z32 29 (0, 0))) := alloc_new _ _ rfl
 go_upto_region 2 with (refine wpList_store_row rfl 29 _ _ rfl w1.heap.size (dg.map (Value.int .u8)).toArray rfl rfl 29 _ HZ.out HDSI.out HOS.out hone ?_)
 have HBB : Hid (((w1.alloc (.cells z32 29)).setRow w1.heap.size (dg.map (Value.int .u8)).toArray).heap[w.heap.size]? = some (.cells cs 31 (0, 0))) := by
  have := heap_lt HB1.out
  exact (setRow_other _ _ _ _ (by omega)).trans (alloc_old HB1.out)
 have HQB := hid_of (setRow_heap (w1.alloc (.cells z32 29)) w1.heap.size _ (dg.map (Value.int .u8)).toArray 29 (0, 0) HZ.out)
 have HKB : Hid (Kept (fun _ => False) w ((w1.alloc (.cells z32 29)).setRow w1.heap.size (dg.map (Value.int .u8)).toArray)) := (HK1.out.alloc _).setRow (.inl HW1.out) _
 clear HK1 HB1 HZ
 generalize (w1.alloc (.cells z32 29)).setRow w1.heap.size (dg.map (Value.int .u8)).toArray = wB at *
 obtain ⟨p5, hp5⟩ : ∃ q, q = w1.heap.size := ⟨_, rfl⟩
 obtain ⟨p, hp⟩ : ∃ q, q = w.heap.size := ⟨_, rfl⟩
 rw [← hp] at HBB
 rw [← hp5] at HQB HW1
 try rw [← hp5]
 try rw [← hp]
 have HP0 : Hid (w.heap.size ≤ p) := by show _ ≤ p; omega
 clear hp hp5 w1
 have c0 := (cell_block _ _ 0 _ _ _ HBB.out).trans HC.out.kd
 have c1 := (cell_block _ _ 1 _ _ _ HBB.out).trans HC.out.bv
 have c2 := (cell_block _ _ 2 _ _ _ HBB.out).trans HC.out.cv
 rw [hkd] at c0
 have hWB := HW.out.same HKB.out
 have HLE := hid_of (lend_any s r hWB.blk hWB.inn hWB.mm (.slice bo t.xs.length bc) t.xs (by rw [← hbv]; exact HTO.out.bb.kept2 HKB.out (fun _ _ _ f => f)) hbl (fun h0 q hq e => by rw [← hbv] at hq; have := hlow.1 h0 q hq; have := HW.out.gl.1; omega))
 clear hWB
 go_wp2_with fail
 refine HLE.out.mono ?_
 rintro e w2 ⟨gi, m', rfl, hl, hg, hm, hk2, hgi⟩
 have HPS : Hid (PutS w w2 lo k n g s mv σ r lv ρ iv p p5 cs (dg.map (Value.int .u8)).toArray gi m' (.slice bo t.xs.length bc) t.xs) := PutS.mk' HW.out HKB.out HBB.out HP0.out HQB.out HW1.out (by rw [← hbv]; exact HTO.out.bb) (by rw [← hbv]; exact hlow.1) hl hg hm hk2 hgi
 clear c0 c1 c2 hl hg hm hk2 hgi HLE HBB HQB HKB wB
 have c0 := (cell_block _ _ 0 _ _ _ HPS.out.pv).trans HC.out.kd
 rw [hkd] at c0
 clear HC HW HP0 HW1
 have cg0 : w2.cell? ⟨g, 0, none⟩ = some (.pointer (some ⟨s, 0, none⟩)) := cell_block _ g 0 _ _ _ HPS.out.lent.blk
 obtain ⟨d, q, hd, hput⟩ := put_two HPS.out.lent.two hn t.xs HTO.out.br (by omega) _ HPS.out.mem.bin
 have HPUT := hid_of hput
 clear hput
 have HDI := hid_of (size29_arr d hd)
 have HDO : Hid (32 = (d.map (Value.int .u8)).toArray.size) := by show 32 = _; simp [hd]
 have hone2 := oneCells .u8 d
 have heq : ∀ W, (binOp .eql 29 (.agg (d.map (Value.int .u8)).toArray) (.agg (d.map (Value.int .u8)).toArray)).run Tryz.prog W = .ok (.bool true) W := fun W => by
  have := run_eql32 W 29 d d Tryz.underlying29 hd hd
  rw [decide_eq_true rfl] at this
  exact this
 unfold dv at HPUT
 generalize (d.map (Value.int .u8)).toArray = dd at *
 go_wp2_with fail
 refine HPUT.out.mono ?_
 rintro e w3 ⟨rfl, hk3, hnext⟩
 clear c0 cg0 HPUT
 have HK3 := hid_of hk3
 have HNX := hid_of hnext
 clear hk3 hnext
 have HZ : Hid ((w3.alloc (.cells z32 29)).heap[w3.heap.size]? = some (.cells z32 29 (0, 0))) := alloc_new _ _ rfl
 go_upto_region 10 with (refine wpList_store_row rfl 29 _ _ rfl w3.heap.size dd rfl rfl 29 _ HZ.out HDI.out HDO.out hone2 ?_)
 have HY := hid_of (setRow_heap (w3.alloc (.cells z32 29)) w3.heap.size _ dd 29 (0, 0) HZ.out)
 have HK4 : Hid (Kept (fun _ => False) w3 ((w3.alloc (.cells z32 29)).setRow w3.heap.size dd)) := ((Kept.refl _ w3).alloc _).setRow (.inl (Nat.le_refl _)) _
 clear HZ
 generalize (w3.alloc (.cells z32 29)).setRow w3.heap.size dd = w4 at *
 have HK24 : Hid (Kept (OwnT s mv r lv) w2 w4) := (HK3.out.mono (fun _ _ e => .inl e)).trans (HK4.out.mono (fun _ _ f => f.elim))
 have HYN : Hid (¬ OwnR r lv w3.heap.size) := fun e => by have := HPS.out.lent.two.olt _ (.inr e); have := HK3.out.size; omega
 have cg1 : w4.cell? ⟨g, 1, none⟩ = some (.pointer (some ⟨r, 0, none⟩)) := HK24.out.cell (cell_block _ g 1 _ _ _ HPS.out.lent.blk) HPS.out.lent.goff
 have HN2 := hid_of (HNX.out w4 _ HK4.out (HPS.out.byte HK24.out))
 clear HNX HK4 HK24 HK3
 obtain ⟨p9, hp9⟩ : ∃ q, q = w3.heap.size := ⟨_, rfl⟩
 rw [← hp9] at HY HYN
 try rw [← hp9]
 clear hp9 w3
 go_wp2_with fail
 refine HN2.out.mono ?_
 rintro e w5 ⟨rfl, hkr, ht5⟩
 have HT := hid_of ht5
 have HY5 : Hid (w5.heap[p9]? = some (.cells dd 29 (0, 0))) := (hkr.block _ (heap_lt HY.out) HYN.out).trans HY.out
 clear hkr ht5 HN2 HY HYN cg1 w4
 have HZ : Hid ((w5.alloc (.cells z32 29)).heap[w5.heap.size]? = some (.cells z32 29 (0, 0))) := alloc_new _ _ rfl
 go_upto_region 11 with (refine wpList_store_row rfl 29 _ _ rfl w5.heap.size dd rfl rfl 29 _ HZ.out HDI.out HDO.out hone2 ?_)
 have HY6 := hid_of (setRow_heap (w5.alloc (.cells z32 29)) w5.heap.size _ dd 29 (0, 0) HZ.out)
 have HKF : Hid (Kept (fun _ => False) w5 ((w5.alloc (.cells z32 29)).setRow w5.heap.size dd)) := ((Kept.refl _ w5).alloc _).setRow (.inl (Nat.le_refl _)) _
 have HY9 : Hid (((w5.alloc (.cells z32 29)).setRow w5.heap.size dd).heap[p9]? = some (.cells dd 29 (0, 0))) := (HKF.out.block _ (heap_lt HY5.out) (fun f => f)).trans HY5.out
 clear HZ HY5
 generalize (w5.alloc (.cells z32 29)).setRow w5.heap.size dd = w6 at *
 obtain ⟨p11, hp11⟩ : ∃ q, q = w5.heap.size := ⟨_, rfl⟩
 rw [← hp11] at HY6
 try rw [← hp11]
 clear hp11
 go_wp2_with (first | refine wpList_load_row rfl 29 _ rfl p9 rfl 29 dd (0, 0) _ HY9.out Tryz.underlying29 rfl HDI.out ?_ | refine wpList_load_row rfl 29 _ rfl p11 rfl 29 dd (0, 0) _ HY6.out Tryz.underlying29 rfl HDI.out ?_)
 refine (HPS.out.fin _ _ _ HT.out HKF.out).mono ?_
 rintro e w7 ⟨rfl, hto⟩
 have HTO2 := hid_of hto
 clear hto
 go_wp2
 go_ret
 exact ⟨rfl, HTO2.out⟩
set_option maxHeartbeats 16000000 in
theorem wput_six {w : World} {lo k n g s : Nat} {mv : Value} {σ : Sg} {r : Nat} {lv : Value} {ρ : Rg} {iv : Value} {m : Nat} (h : Wd w lo k n g s mv σ r lv ρ iv m) (hn : n ≤ 900000) (t : Stp) (ht : t.Ok w) (hlow : Low lo t) (hbl : t.xs.length ≤ 8192) (hcl : t.ys.length ≤ 8192) (hkd : t.kd = 6) :
  Calls Tryz.prog 15 #[.pointer (some ⟨g, 0, none⟩), .agg t.cells.toArray] w fun e w' => e = .returned (.bool true) ∧ WdTo w w' lo k (n + 2) g s mv σ r lv ρ iv := by
 obtain ⟨bo, bc, co, cc, hbv, hcv, hc⟩ := Stp.st ht
 obtain ⟨cs, hcs⟩ : ∃ c, c = t.cells.toArray := ⟨_, rfl⟩
 rw [← hcs] at hc ⊢
 clear hcs
 have hkA : Kept (fun _ => False) w (w.alloc (.cells cs 31)) := (Kept.refl _ w).alloc _
 have hA := h.same hkA
 have hwr : (w.alloc (.cells cs 31)).cell? ⟨r, 0, none⟩ = some (.int .i64 (k : Int)) := by
  have := hA.two.rs.cell 0
  rw [show (ρ.cells lv)[0]? = some (.int .i64 ρ.wd) from rfl, hA.two.num.1] at this
  exact this
 have HDIG := hid_of (wdig_any (sv := .pointer (some ⟨s, 0, none⟩)) (iv := iv) hA.blk hwr h.two.k1.1 h.two.k1.2 t (ht.kept hlow hkA (fun _ _ f => f)) (by omega) cs hc hbv)
 clear hwr
 have hdl := Stp.dig_len (t := t) h.two.k1.2 ht.dl
 have hdr := Stp.dig_rng (t := t) h.two.k1.2 ht.dr
 have HBB : Hid ((w.alloc (.cells cs 31)).heap[w.heap.size]? = some (.cells cs 31 (0, 0))) := alloc_new _ _ rfl
 have HC := hid_of hc
 have HW := hid_of h
 have HKA := hid_of hkA
 have HTO := hid_of ht
 have HDSI := hid_of (size29_arr (t.dig k) hdl)
 have HOS : Hid (32 = ((t.dig k).map (Value.int .u8)).toArray.size) := by show 32 = _; simp [hdl]
 have hone := oneCells .u8 (t.dig k)
 obtain ⟨dg, hdg⟩ : ∃ d, d = t.dig k := ⟨_, rfl⟩
 rw [← hdg] at HDIG HDSI HOS hone hdl hdr
 clear hkA hA hc hdg ht h
 unfold dv at HDIG
 go_enter Tryz.func15, Tryz.ntmps15
 go_wp2_with (refine wpList_load_row rfl 31 _ rfl w.heap.size rfl 31 cs (0, 0) _ HBB.out Tryz.underlying31 rfl HC.out.size ?_)
 refine HDIG.out.mono ?_
 rintro e w1 ⟨rfl, hk1⟩
 clear HDIG
 have HK1 := hid_of (HKA.out.trans hk1)
 have HB1 : Hid (w1.heap[w.heap.size]? = some (.cells cs 31 (0, 0))) := (hk1.block _ (heap_lt HBB.out) (fun f => f)).trans HBB.out
 have hw1 : w.heap.size ≤ w1.heap.size := HK1.out.size
 have HW1 := hid_of hw1
 clear hk1 HKA HBB hw1
 have HZ : Hid ((w1.alloc (.cells z32 29)).heap[w1.heap.size]? = some (.cells z32 29 (0, 0))) := alloc_new _ _ rfl
 go_upto_region 2 with (refine wpList_store_row rfl 29 _ _ rfl w1.heap.size (dg.map (Value.int .u8)).toArray rfl rfl 29 _ HZ.out HDSI.out HOS.out hone ?_)
 have HBB : Hid (((w1.alloc (.cells z32 29)).setRow w1.heap.size (dg.map (Value.int .u8)).toArray).heap[w.heap.size]? = some (.cells cs 31 (0, 0))) := by
  have := heap_lt HB1.out
  exact (setRow_other _ _ _ _ (by omega)).trans (alloc_old HB1.out)
 have HQB := hid_of (setRow_heap (w1.alloc (.cells z32 29)) w1.heap.size _ (dg.map (Value.int .u8)).toArray 29 (0, 0) HZ.out)
 have HKB : Hid (Kept (fun _ => False) w ((w1.alloc (.cells z32 29)).setRow w1.heap.size (dg.map (Value.int .u8)).toArray)) := (HK1.out.alloc _).setRow (.inl HW1.out) _
 clear HK1 HB1 HZ
 generalize (w1.alloc (.cells z32 29)).setRow w1.heap.size (dg.map (Value.int .u8)).toArray = wB at *
 obtain ⟨p5, hp5⟩ : ∃ q, q = w1.heap.size := ⟨_, rfl⟩
 obtain ⟨p, hp⟩ : ∃ q, q = w.heap.size := ⟨_, rfl⟩
 rw [← hp] at HBB
 rw [← hp5] at HQB HW1
 try rw [← hp5]
 try rw [← hp]
 have HP0 : Hid (w.heap.size ≤ p) := by show _ ≤ p; omega
 clear hp hp5 w1
 have c0 := (cell_block _ _ 0 _ _ _ HBB.out).trans HC.out.kd
 have c1 := (cell_block _ _ 1 _ _ _ HBB.out).trans HC.out.bv
 have c2 := (cell_block _ _ 2 _ _ _ HBB.out).trans HC.out.cv
 rw [hkd] at c0
 have hWB := HW.out.same HKB.out
 have HLE := hid_of (lend_any s r hWB.blk hWB.inn hWB.mm (.slice co t.ys.length cc) t.ys (by rw [← hcv]; exact HTO.out.cb.kept2 HKB.out (fun _ _ _ f => f)) hcl (fun h0 q hq e => by rw [← hcv] at hq; have := hlow.2 h0 q hq; have := HW.out.gl.1; omega))
 clear hWB
 go_wp2_with fail
 refine HLE.out.mono ?_
 rintro e w2 ⟨gi, m', rfl, hl, hg, hm, hk2, hgi⟩
 have HPS : Hid (PutS w w2 lo k n g s mv σ r lv ρ iv p p5 cs (dg.map (Value.int .u8)).toArray gi m' (.slice co t.ys.length cc) t.ys) := PutS.mk' HW.out HKB.out HBB.out HP0.out HQB.out HW1.out (by rw [← hcv]; exact HTO.out.cb) (by rw [← hcv]; exact hlow.2) hl hg hm hk2 hgi
 clear c0 c1 c2 hl hg hm hk2 hgi HLE HBB HQB HKB wB
 have c0 := (cell_block _ _ 0 _ _ _ HPS.out.pv).trans HC.out.kd
 rw [hkd] at c0
 clear HC HW HP0 HW1
 have hkd2 : Kept (fun _ => False) w2 w2.drew := (Kept.refl _ _).drew
 obtain ⟨q, hpl⟩ := plant_two (HPS.out.lent.two.same hkd2) hn dg hdl hdr t.ys HTO.out.cr (by omega) _ (HPS.out.mem.bin.kept2 hkd2 (fun _ _ _ f => f))
 have HPL := hid_of hpl
 clear hpl
 have HKD2 := hid_of hkd2
 clear hkd2
 unfold dv at HPL
 generalize (dg.map (Value.int .u8)).toArray = dd at *
 have HS : Hid (∀ W, Kept (OwnT s mv r lv) w2 W → W.cell? ⟨g, 0, none⟩ = some (.pointer (some ⟨s, 0, none⟩)) ∧ W.cell? ⟨g, 1, none⟩ = some (.pointer (some ⟨r, 0, none⟩)) ∧ W.heap[p5]? = some (.cells dd 29 (0, 0))) := fun W hW => ⟨hW.cell (cell_block _ g 0 _ _ _ HPS.out.lent.blk) HPS.out.lent.goff, hW.cell (cell_block _ g 1 _ _ _ HPS.out.lent.blk) HPS.out.lent.goff, (hW.block _ (heap_lt HPS.out.qv) HPS.out.qn).trans HPS.out.qv⟩
 go_upto_region 13 with fail
 clear c0
 refine wp_region_held_drew (S := fun w' => Kept (OwnT s mv r lv) w2 w') (by kernel_rfl) ((Kept.refl _ _).drew) (fun hHeld => ?_)
 iterate 4
  refine tkn (v := ?_) 0 rfl ?_ ?_; rotate_left 1
  ·intro w hSw; obtain ⟨s1, s2, s3⟩ := HS.out w hSw; go_simp; try with_reducible rfl
  try simp only [Act.put, tdy]
 refine tkg 4 (.agg dd) rfl (yields_row (by rfl) 29 _ rfl p5 rfl _ _ _ _ (fun w hSw => (HS.out w hSw).2.2) Tryz.underlying29 rfl HDSI.out) ?_
 try simp only [Act.put, tdy]
 refine tkp (v := ?_) 5 rfl ?_ ?_; rotate_left 1
 ·intro w hSw; obtain ⟨s1, s2, s3⟩ := HS.out w hSw; go_simp; try with_reducible rfl
 try simp only [Act.put, tdy]
 refine wpAnyH_ready (rs := [6]) (by kernel_rfl) (by simp) ?_
 refine AllReadyH.cons rfl (fun K hK => ?_) .nil
 go_simp
 refine (HPL.out).mono ?_
 rintro e w3 ⟨rfl, hk3, hnext⟩
 have HK23 : Hid (Kept (OwnT s mv r lv) w2 w3) := (HKD2.out.mono (fun _ _ f => f.elim)).trans (hk3.mono (fun _ _ e => .inl e))
 have HNX := hid_of hnext
 clear hk3 hnext HPL
 refine hK.out _ _ HK23.out (fun hHeld => ?_)
 clear hK K
 try simp only [Act.put, tdy]
 refine tkp (v := ?_) 7 rfl ?_ ?_; rotate_left 1
 ·intro w hSw; obtain ⟨s1, s2, s3⟩ := HS.out w hSw; go_simp; try with_reducible rfl
 try simp only [Act.put, tdy]
 refine wpAnyH_done (by kernel_rfl) ?_ _
 clear hHeld
 go_wp2
 refine wp_region_held_drew (S := fun w' => Kept (OwnT s mv r lv) w2 w') (by kernel_rfl) HK23.out.drew (fun hHeld => ?_)
 iterate 5
  refine tkn (v := ?_) 0 rfl ?_ ?_; rotate_left 1
  ·intro w hSw; obtain ⟨s1, s2, s3⟩ := HS.out w hSw; go_simp; try with_reducible rfl
  try simp only [Act.put, tdy]
 refine tkg 5 (.agg dd) rfl (yields_row (by rfl) 29 _ rfl p5 rfl _ _ _ _ (fun w hSw => (HS.out w hSw).2.2) Tryz.underlying29 rfl HDSI.out) ?_
 try simp only [Act.put, tdy]
 refine tkp (v := ?_) 6 rfl ?_ ?_; rotate_left 1
 ·intro w hSw; obtain ⟨s1, s2, s3⟩ := HS.out w hSw; go_simp; try with_reducible rfl
 try simp only [Act.put, tdy]
 refine wpAnyH_ready (rs := [7]) (by kernel_rfl) (by simp) ?_
 refine AllReadyH.cons rfl (fun K hK => ?_) .nil
 go_simp
 refine (HNX.out _ _ ((Kept.refl _ _).drew) (HPS.out.byte HK23.out.drew)).mono ?_
 rintro e w5 ⟨rfl, ht5⟩
 have HT := hid_of (ht5.pre HKD2.out)
 have HK25 : Hid (Kept (OwnT s mv r lv) w2 w5) := by obtain ⟨_, _, _, _, _, hk, _, _⟩ := HT.out; exact hk
 clear ht5 HNX HK23
 refine hK.out _ _ HK25.out (fun hHeld => ?_)
 clear hK K
 try simp only [Act.put, tdy]
 iterate 2
  refine tkn (v := ?_) 8 rfl ?_ ?_; rotate_left 1
  ·intro w hSw; obtain ⟨s1, s2, s3⟩ := HS.out w hSw; go_simp; try with_reducible rfl
  try simp only [Act.put, tdy]
 refine wpAnyH_done (by kernel_rfl) ?_ _
 clear hHeld
 have HKF : Hid (Kept (fun _ => False) w5 w5) := Kept.refl _ _
 go_wp2_with fail
 refine (HPS.out.fin _ _ _ HT.out HKF.out).mono ?_
 rintro e w7 ⟨rfl, hto⟩
 have HTO2 := hid_of hto
 clear hto
 go_wp2
 go_ret
 exact ⟨rfl, HTO2.out⟩
set_option maxHeartbeats 16000000 in
theorem wput_twelve {w : World} {lo k n g s : Nat} {mv : Value} {σ : Sg} {r : Nat} {lv : Value} {ρ : Rg} {iv : Value} {m : Nat} (h : Wd w lo k n g s mv σ r lv ρ iv m) (hn : n ≤ 900000) (t : Stp) (ht : t.Ok w) (hlow : Low lo t) (hbl : t.xs.length ≤ 8192) (hcl : t.ys.length ≤ 8192) (hkd : t.kd = 12) :
  Calls Tryz.prog 15 #[.pointer (some ⟨g, 0, none⟩), .agg t.cells.toArray] w fun e w' => e = .returned (.bool true) ∧ WdTo w w' lo k (n + 2) g s mv σ r lv ρ iv := by
 obtain ⟨bo, bc, co, cc, hbv, hcv, hc⟩ := Stp.st ht
 obtain ⟨cs, hcs⟩ : ∃ c, c = t.cells.toArray := ⟨_, rfl⟩
 rw [← hcs] at hc ⊢
 clear hcs
 have hkA : Kept (fun _ => False) w (w.alloc (.cells cs 31)) := (Kept.refl _ w).alloc _
 have hA := h.same hkA
 have hwr : (w.alloc (.cells cs 31)).cell? ⟨r, 0, none⟩ = some (.int .i64 (k : Int)) := by
  have := hA.two.rs.cell 0
  rw [show (ρ.cells lv)[0]? = some (.int .i64 ρ.wd) from rfl, hA.two.num.1] at this
  exact this
 have HDIG := hid_of (wdig_any (sv := .pointer (some ⟨s, 0, none⟩)) (iv := iv) hA.blk hwr h.two.k1.1 h.two.k1.2 t (ht.kept hlow hkA (fun _ _ f => f)) (by omega) cs hc hbv)
 clear hwr
 have hdl := Stp.dig_len (t := t) h.two.k1.2 ht.dl
 have hdr := Stp.dig_rng (t := t) h.two.k1.2 ht.dr
 have HBB : Hid ((w.alloc (.cells cs 31)).heap[w.heap.size]? = some (.cells cs 31 (0, 0))) := alloc_new _ _ rfl
 have HC := hid_of hc
 have HW := hid_of h
 have HKA := hid_of hkA
 have HTO := hid_of ht
 have HDSI := hid_of (size29_arr (t.dig k) hdl)
 have HOS : Hid (32 = ((t.dig k).map (Value.int .u8)).toArray.size) := by show 32 = _; simp [hdl]
 have hone := oneCells .u8 (t.dig k)
 obtain ⟨dg, hdg⟩ : ∃ d, d = t.dig k := ⟨_, rfl⟩
 rw [← hdg] at HDIG HDSI HOS hone hdl hdr
 clear hkA hA hc hdg ht h
 unfold dv at HDIG
 go_enter Tryz.func15, Tryz.ntmps15
 go_wp2_with (refine wpList_load_row rfl 31 _ rfl w.heap.size rfl 31 cs (0, 0) _ HBB.out Tryz.underlying31 rfl HC.out.size ?_)
 refine HDIG.out.mono ?_
 rintro e w1 ⟨rfl, hk1⟩
 clear HDIG
 have HK1 := hid_of (HKA.out.trans hk1)
 have HB1 : Hid (w1.heap[w.heap.size]? = some (.cells cs 31 (0, 0))) := (hk1.block _ (heap_lt HBB.out) (fun f => f)).trans HBB.out
 have hw1 : w.heap.size ≤ w1.heap.size := HK1.out.size
 have HW1 := hid_of hw1
 clear hk1 HKA HBB hw1
 have HZ : Hid ((w1.alloc (.cells z32 29)).heap[w1.heap.size]? = some (.cells z32 29 (0, 0))) := alloc_new _ _ rfl
 go_upto_region 2 with (refine wpList_store_row rfl 29 _ _ rfl w1.heap.size (dg.map (Value.int .u8)).toArray rfl rfl 29 _ HZ.out HDSI.out HOS.out hone ?_)
 have HBB : Hid (((w1.alloc (.cells z32 29)).setRow w1.heap.size (dg.map (Value.int .u8)).toArray).heap[w.heap.size]? = some (.cells cs 31 (0, 0))) := by
  have := heap_lt HB1.out
  exact (setRow_other _ _ _ _ (by omega)).trans (alloc_old HB1.out)
 have HQB := hid_of (setRow_heap (w1.alloc (.cells z32 29)) w1.heap.size _ (dg.map (Value.int .u8)).toArray 29 (0, 0) HZ.out)
 have HKB : Hid (Kept (fun _ => False) w ((w1.alloc (.cells z32 29)).setRow w1.heap.size (dg.map (Value.int .u8)).toArray)) := (HK1.out.alloc _).setRow (.inl HW1.out) _
 clear HK1 HB1 HZ
 generalize (w1.alloc (.cells z32 29)).setRow w1.heap.size (dg.map (Value.int .u8)).toArray = wB at *
 obtain ⟨p5, hp5⟩ : ∃ q, q = w1.heap.size := ⟨_, rfl⟩
 obtain ⟨p, hp⟩ : ∃ q, q = w.heap.size := ⟨_, rfl⟩
 rw [← hp] at HBB
 rw [← hp5] at HQB HW1
 try rw [← hp5]
 try rw [← hp]
 have HP0 : Hid (w.heap.size ≤ p) := by show _ ≤ p; omega
 clear hp hp5 w1
 have c0 := (cell_block _ _ 0 _ _ _ HBB.out).trans HC.out.kd
 have c1 := (cell_block _ _ 1 _ _ _ HBB.out).trans HC.out.bv
 have c2 := (cell_block _ _ 2 _ _ _ HBB.out).trans HC.out.cv
 rw [hkd] at c0
 have hWB := HW.out.same HKB.out
 have HLE := hid_of (lend_any s r hWB.blk hWB.inn hWB.mm (.slice bo t.xs.length bc) t.xs (by rw [← hbv]; exact HTO.out.bb.kept2 HKB.out (fun _ _ _ f => f)) hbl (fun h0 q hq e => by rw [← hbv] at hq; have := hlow.1 h0 q hq; have := HW.out.gl.1; omega))
 clear hWB
 go_wp2_with fail
 refine HLE.out.mono ?_
 rintro e w2 ⟨gi, m', rfl, hl, hg, hm, hk2, hgi⟩
 have HPS : Hid (PutS w w2 lo k n g s mv σ r lv ρ iv p p5 cs (dg.map (Value.int .u8)).toArray gi m' (.slice bo t.xs.length bc) t.xs) := PutS.mk' HW.out HKB.out HBB.out HP0.out HQB.out HW1.out (by rw [← hbv]; exact HTO.out.bb) (by rw [← hbv]; exact hlow.1) hl hg hm hk2 hgi
 clear c0 c1 c2 hl hg hm hk2 hgi HLE HBB HQB HKB wB
 have c0 := (cell_block _ _ 0 _ _ _ HPS.out.pv).trans HC.out.kd
 rw [hkd] at c0
 clear HC HW HP0 HW1
 have HK1 := hid_of HPS.out.lent.two.k1
 have hfl := frontOf_len k t.xs HK1.out.2
 have heq : ∀ W, (binOp .eql 29 (dv (frontOf k t.xs)) (dv (frontOf k t.xs))).run Tryz.prog W = .ok (.bool true) W := fun W => by
  have := run_eql32 W 29 _ _ Tryz.underlying29 hfl hfl
  rw [decide_eq_true rfl] at this
  exact this
 have HA : Hid (∀ W, Kept (fun _ => False) w2 W → Calls Tryz.prog 37 #[.pointer (some ⟨s, 0, none⟩), .slice (some ⟨gi, 0, none⟩) t.xs.length m'] W fun e w' => e = .returned (dv (frontOf k t.xs)) ∧ Kept (fun _ => False) W w') := fun W hW => by
  have h2 := HPS.out.lent.two.same hW
  have hc0 : W.cell? ⟨s, 0, none⟩ = some (.int .i64 σ.wd) := h2.st.cell 0
  rw [h2.sane.wd] at hc0
  exact digest_cells s k HK1.out.1 HK1.out.2 _ t.xs W hc0 h2.laid (HPS.out.mem.bin.kept2 hW (fun _ _ _ f => f)) HTO.out.br (by omega)
 have HB : Hid (∀ W, Kept (fun _ => False) w2 W → Calls Tryz.prog 38 #[.int .i64 (k : Int), .slice bo t.xs.length bc] W fun e w' => e = .returned (dv (frontOf k t.xs)) ∧ Kept (fun _ => False) W w') := fun W hW =>
  rof4_any k HK1.out.1 HK1.out.2 _ t.xs W (HPS.out.bin.kept2 hW (fun _ _ _ f => f)) HTO.out.br (by omega)
 have HS : Hid (∀ W, Kept (fun _ => False) w2 W → W.cell? ⟨g, 0, none⟩ = some (.pointer (some ⟨s, 0, none⟩)) ∧ W.cell? ⟨g, 1, none⟩ = some (.pointer (some ⟨r, 0, none⟩)) ∧ W.cell? ⟨r, 0, none⟩ = some (.int .i64 (k : Int))) := fun W hW => by
  have h2 := HPS.out.lent.two.same hW
  have hc0 : W.cell? ⟨r, 0, none⟩ = some (.int .i64 ρ.wd) := h2.rs.cell 0
  rw [h2.num.1] at hc0
  exact ⟨hW.cell (cell_block _ g 0 _ _ _ HPS.out.lent.blk) (fun f => f), hW.cell (cell_block _ g 1 _ _ _ HPS.out.lent.blk) (fun f => f), hc0⟩
 unfold dv at heq HA HB
 generalize ((frontOf k t.xs).map (Value.int .u8)).toArray = dd at *
 go_upto_region 16 with fail
 clear c0
 refine wp_region_held_drew (S := fun w' => Kept (fun _ => False) w2 w') (by kernel_rfl) ((Kept.refl _ _).drew) (fun hHeld => ?_)
 iterate 5
  refine tkn (v := ?_) 0 rfl ?_ ?_; rotate_left 1
  ·intro w hSw; obtain ⟨s1, s2, s3⟩ := HS.out w hSw; go_simp; try with_reducible rfl
  try simp only [Act.put, tdy]
 iterate 8
  refine tkn (v := ?_) 6 rfl ?_ ?_; rotate_left 1
  ·intro w hSw; obtain ⟨s1, s2, s3⟩ := HS.out w hSw; go_simp; try with_reducible rfl
  try simp only [Act.put, tdy]
 refine wpAnyH_ready (rs := [5]) (by kernel_rfl) (by simp) ?_
 refine AllReadyH.cons rfl (fun K hK => ?_) .nil
 go_simp
 refine (HA.out _ ((Kept.refl _ _).drew)).mono ?_
 rintro e w3 ⟨rfl, hk3⟩
 have HK23 : Hid (Kept (fun _ => False) w2 w3) := ((Kept.refl _ _).drew).trans hk3
 clear hk3 HA
 refine hK.out _ _ HK23.out (fun hHeld => ?_)
 clear hK K
 try simp only [Act.put, tdy]
 refine wpAnyH_ready (rs := [14]) (by kernel_rfl) (by simp) ?_
 refine AllReadyH.cons rfl (fun K hK => ?_) .nil
 go_simp
 refine (HB.out _ HK23.out).mono ?_
 rintro e w5 ⟨rfl, hk5⟩
 have HK25 : Hid (Kept (fun _ => False) w2 w5) := HK23.out.trans hk5
 clear hk5 HB HK23
 refine hK.out _ _ HK25.out (fun hHeld => ?_)
 clear hK K
 try simp only [Act.put, tdy]
 iterate 2
  refine tkn (v := ?_) 15 rfl ?_ ?_; rotate_left 1
  ·intro w hSw; obtain ⟨s1, s2, s3⟩ := HS.out w hSw; go_simp; try with_reducible rfl
  try simp only [Act.put, tdy]
 refine wpAnyH_done (by kernel_rfl) ?_ _
 clear hHeld
 have HT := hid_of (HPS.out.lent.two.stay HK25.out)
 have HKF : Hid (Kept (fun _ => False) w5 w5) := Kept.refl _ _
 go_wp2_with fail
 refine (HPS.out.fin _ _ _ HT.out HKF.out).mono ?_
 rintro e w7 ⟨rfl, hto⟩
 have HTO2 := hid_of hto
 clear hto
 go_wp2
 go_ret
 exact ⟨rfl, HTO2.out⟩
end Go.Proofs.YtjdbmjkidljhpaaGreatDoor

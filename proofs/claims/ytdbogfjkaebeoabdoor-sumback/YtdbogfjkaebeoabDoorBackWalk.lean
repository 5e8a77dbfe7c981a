/-
  The walk of SumBack.
-/
import Derived.Test.YtdbogfjkaebeoabDoorKnown
import Derived.Test.YtdbogfjkaebeoabDoorPback
import Derived.Test.YtdbogfjkaebeoabDoorFits
namespace Go.Proofs.YtdbogfjkaebeoabDoor
open Go.RowKit
set_option linter.unusedVariables false
set_option linter.unusedSimpArgs false

theorem cutL_idem (d : List Int) (k : Nat) (hl : d.length = 32) (hk : k ≤ 32) : cutL (cutL d k) k = cutL d k := by
  unfold cutL
  rw [List.take_append_of_le_length (by simp; omega), List.take_take, Nat.min_self]
theorem fitsL_bad (d : List Int) (width : Int) (h : width < 1 ∨ 32 < width) : fitsL d width = false := by
  unfold fitsL cutE
  rw [if_pos h]
  rfl
theorem fitsL_ok (d : List Int) (k : Nat) (h1 : 1 ≤ k) (h2 : k ≤ 32) : fitsL d k = decide (cutL d k = d) := by
  unfold fitsL cutE cutR
  rw [if_neg (by omega), if_neg (by omega)]
  simp
theorem fits_bad (d : List Int) (width : Int) (hl : d.length = 32) (h : width < 1 ∨ 32 < width) (w : World) : Calls Tryd.prog 14 #[.agg (d.map (Value.int .u8)).toArray, .int .i64 width] w fun e w' => e = .returned (.bool false) ∧ Kept (fun _ => False) w w' := by
  have := fits_any d width hl w
  rwa [fitsL_bad d width h] at this
theorem fits_ok (d : List Int) (k : Nat) (hl : d.length = 32) (h1 : 1 ≤ k) (h2 : k ≤ 32) (w : World) : Calls Tryd.prog 14 #[.agg (d.map (Value.int .u8)).toArray, .int .i64 (k : Int)] w fun e w' => e = .returned (.bool (decide (cutL d k = d))) ∧ Kept (fun _ => False) w w' := by
  have := fits_any d k hl w
  rwa [fitsL_ok d k h1 h2] at this
theorem fits_cut (d : List Int) (k : Nat) (hl : d.length = 32) (h1 : 1 ≤ k) (h2 : k ≤ 32) (w : World) : Calls Tryd.prog 14 #[.agg ((cutL d k).map (Value.int .u8)).toArray, .int .i64 (k : Int)] w fun e w' => e = .returned (.bool true) ∧ Kept (fun _ => False) w w' := by
  have := fits_ok (cutL d k) k (cutL_length d k hl h2) h1 h2 w
  rwa [decide_eq_true (cutL_idem d k hl h2)] at this
theorem cut_again (d : List Int) (k : Nat) (hl : d.length = 32) (h1 : 1 ≤ k) (h2 : k ≤ 32) (w : World) : Calls Tryd.prog 13 #[.agg ((cutL d k).map (Value.int .u8)).toArray, .int .i64 (k : Int)] w fun e w' => e = .returned (.tuple #[.agg ((cutL d k).map (Value.int .u8)).toArray, .int .i64 0]) ∧ Kept (fun _ => False) w w' := by
  have := cut_ok (cutL d k) k (cutL_length d k hl h2) h1 h2 w
  rwa [cutL_idem d k hl h2] at this
theorem cutL_at (d : List Int) (k i : Nat) (hl : d.length = 32) (hk : k ≤ 32) (hi : i < 32) : (cutL d k).getD i 0 = if i < k then d.getD i 0 else 0 := by
  unfold cutL
  by_cases h : i < k
  · rw [if_pos h, List.getD, List.getElem?_append_left (by simp; omega), List.getElem?_take_of_lt h, List.getD]
  · rw [if_neg h, List.getD, List.getElem?_append_right (by simp; omega), List.getElem?_replicate]
    split <;> rfl
theorem rangeL {w : World} {g : Nat} {cs : List Value} {t : TypeId} {f : Nat × Nat} (h : w.heap[g]? = some (.cells cs.toArray t f)) : w.rangeAt g 0 cs := fun j v hv => by
  rw [cell_block _ _ _ _ _ _ h, Nat.zero_add]
  simpa using hv
theorem neq_zeros (W : World) : (binOp .neq 27 (.agg (zeros32.map (Value.int .u8)).toArray) (.agg #[.int .u8 0, .int .u8 0, .int .u8 0, .int .u8 0, .int .u8 0, .int .u8 0, .int .u8 0, .int .u8 0, .int .u8 0, .int .u8 0, .int .u8 0, .int .u8 0, .int .u8 0, .int .u8 0, .int .u8 0, .int .u8 0, .int .u8 0, .int .u8 0, .int .u8 0, .int .u8 0, .int .u8 0, .int .u8 0, .int .u8 0, .int .u8 0, .int .u8 0, .int .u8 0, .int .u8 0, .int .u8 0, .int .u8 0, .int .u8 0, .int .u8 0, .int .u8 0])).run Tryd.prog W = .ok (.bool false) W :=
  run_neq32 W 27 zeros32 zeros32 Tryd.underlying27 rfl rfl

set_option maxRecDepth 100000 in
set_option maxHeartbeats 2000000 in
theorem sumBack_walk (d : List Int) (s : ByteArray) (width : Int) (hd : d.length = 32) (hr : ∀ x ∈ d, 0 ≤ x ∧ x < 256) (w : World) (hL : Laid w) :
    Calls Tryd.prog 4 #[.agg (d.map (Value.int .u8)).toArray, .string s, .int .i64 width] w fun e w' => e = .returned (.bool true) ∧ Kept (fun _ => False) w w' := by
  have HKN := hid_of (fun W (h : Laid W) => known_any W h)
  have HTD := hid_of (fun W => text_any d hd hr W)
  have HPT := hid_of (fun W => parse_text d hd hr W)
  have HPS := hid_of (fun W => parse_any s W)
  have hsz : (strOf (hexs d)).size = 64 := by rw [strOf_size, hexs_length, hd]
  have hlD : (d.map (Value.int .u8)).length = 32 := by rw [List.length_map, hd]
  have hsD : (Tryd.prog.info? 27).map (·.size) = some (d.map (Value.int .u8)).length := by rw [size28, hlD]
  have hu := Tryd.underlying27
  have hne := fun W => run_neq32 W 27 d d Tryd.underlying27 hd hd
  rw [decide_eq_true (rfl : d = d)] at hne
  have hone := oneCells .u8 d
  have HOS : Hid (32 = (d.map (Value.int .u8)).toArray.size) := by show 32 = _; simp [hd]
  have hszI : ((strOf (hexs d)).size : Int) = 64 := by omega
  have HCB := hid_of (fun (h : width < 1 ∨ 32 < width) W => cut_bad d width hd h W)
  have HCZ := hid_of (fun (h : width < 1 ∨ 32 < width) W => cut_bad zeros32 width rfl h W)
  have HFB := hid_of (fun (h : width < 1 ∨ 32 < width) W => fits_bad d width hd h W)
  have HCO := hid_of (fun k h1 h2 W => cut_ok d k hd h1 h2 W)
  have HFO := hid_of (fun k h1 h2 W => fits_ok d k hd h1 h2 W)
  have HEQ := hid_of (fun k (h2 : k ≤ 32) W => run_eql32 W 27 (cutL d k) d Tryd.underlying27 (cutL_length d k hd h2) hd)
  have HL := hid_of hL
  clear hL hlD
  generalize hcd : d.map (Value.int .u8) = cd at *
  have HCD := hid_of hcd
  clear hcd
  go_enter Tryd.func4, Tryd.ntmps4
  go_wp2_with fail
  refine (HKN.out _ (laid_kept HL.out ((Kept.refl (fun _ => False) w).alloc _) (fun f => f))).mono ?_
  rintro e w1 ⟨rfl, hk1⟩
  have hD1 : w1.heap[w.heap.size]? = some (.cells cd.toArray 27 (0, 0)) := (hk1.block _ (by simp) (fun f => f)).trans (alloc_new _ _ rfl)
  have HK1 := hid_of (((Kept.refl _ w).alloc _).trans hk1)
  clear hk1 HKN HL
  go_wp2_with (refine wpList_load_row rfl 27 _ rfl w.heap.size rfl 27 cd.toArray (0, 0) _ hD1 Tryd.underlying27 rfl hsD ?_)
  refine (HTD.out _).mono ?_
  rintro e w2 ⟨rfl, hk2⟩
  have hD2 := (hk2.block _ (heap_lt hD1) (fun f => f)).trans hD1
  have HK2 := hid_of (HK1.out.trans hk2)
  clear hk2 hD1 HK1 HTD
  go_wp2_with fail
  refine (HPT.out _).mono ?_
  rintro e w3 ⟨rfl, hk3⟩
  have hD3 := (hk3.block _ (heap_lt hD2) (fun f => f)).trans hD2
  have HK3 := hid_of (HK2.out.trans hk3)
  clear hk3 hD2 HK2 HPT
  have HKA := hid_of (HK3.out.alloc (.cells cd.toArray 27))
  have hDA : (w3.alloc (.cells cd.toArray 27)).heap[w.heap.size]? = some (.cells cd.toArray 27 (0, 0)) := alloc_old hD3
  have hAA : (w3.alloc (.cells cd.toArray 27)).heap[w3.heap.size]? = some (.cells cd.toArray 27 (0, 0)) := alloc_new _ _ rfl
  go_wp2_with (first | (refine wpList_store_row rfl 27 _ _ rfl w3.heap.size cd.toArray rfl rfl 27 _ (alloc_new _ _ rfl) hsD HOS.out hone ?_; rw [setRow_new _ _ _ _ rfl]) | refine wpList_load_wanted (by rfl) 27 _ rfl w3.heap.size rfl 27 cd.toArray (0, 0) _ hAA Tryd.underlying27 rfl hsD ?_ | refine wpList_load_wanted (by rfl) 27 _ rfl w.heap.size rfl 27 cd.toArray (0, 0) _ hDA Tryd.underlying27 rfl hsD ?_)
  clear hAA hne hD3 HK3
  refine (HPS.out _).mono ?_
  rintro e w4 ⟨hk4, ⟨b, hbl, hbr, hbs, rfl⟩ | rfl⟩
  focus
    have hD4 := (hk4.block _ (heap_lt hDA) (fun f => f)).trans hDA
    have HK4 := hid_of (HKA.out.trans hk4)
    have HTB := hid_of (fun W => text_any b hbl hbr W)
    rw [hbs] at HTB
    have hsB : (Tryd.prog.info? 27).map (·.size) = some (b.map (Value.int .u8)).length := by rw [size28, List.length_map, hbl]
    have honeB := oneCells .u8 b
    have HOB : Hid (32 = (b.map (Value.int .u8)).toArray.size) := by show 32 = _; simp [hbl]
    clear hk4 hDA HKA HPS hbs hbr hbl
    generalize b.map (Value.int .u8) = cb at *
    have HKB := hid_of (HK4.out.alloc (.cells cb.toArray 27))
    have hDB : (w4.alloc (.cells cb.toArray 27)).heap[w.heap.size]? = some (.cells cd.toArray 27 (0, 0)) := alloc_old hD4
    have hBB : (w4.alloc (.cells cb.toArray 27)).heap[w4.heap.size]? = some (.cells cb.toArray 27 (0, 0)) := alloc_new _ _ rfl
    clear hD4 HK4
    go_wp2_with (first | (refine wpList_store_row rfl 27 _ _ rfl w4.heap.size cb.toArray rfl rfl 27 _ (alloc_new _ _ rfl) hsB HOB.out honeB ?_; rw [setRow_new _ _ _ _ rfl]) | refine wpList_load_wanted (by rfl) 27 _ rfl w4.heap.size rfl 27 cb.toArray (0, 0) _ hBB Tryd.underlying27 rfl hsB ?_)
    refine (HTB.out _).mono ?_
    rintro e w5 ⟨rfl, hk5⟩
    have hD5 := (hk5.block _ (heap_lt hDB) (fun f => f)).trans hDB
    have HK5 := hid_of (HKB.out.trans hk5)
    clear hk5 HTB hBB hDB HKB hsB honeB HOB
    go_wp2_with (refine wpList_load_row rfl 27 _ rfl w.heap.size rfl 27 cd.toArray (0, 0) _ hD5 Tryd.underlying27 rfl hsD ?_)
  rotate_left 1
  focus
    have hD4 := (hk4.block _ (heap_lt hDA) (fun f => f)).trans hDA
    have HK4 := hid_of (HKA.out.trans hk4)
    have hne := neq_zeros
    have hsB : (Tryd.prog.info? 27).map (·.size) = some (zeros32.map (Value.int .u8)).length := by rw [size28]; rfl
    have honeB := oneCells .u8 zeros32
    have HOB : Hid (32 = (zeros32.map (Value.int .u8)).toArray.size) := by show 32 = _; rfl
    clear hk4 hDA HKA HPS
    generalize zeros32.map (Value.int .u8) = cb at hne hsB honeB HOB ⊢
    have HKB := hid_of (HK4.out.alloc (.cells cb.toArray 27))
    have hDB : (w4.alloc (.cells cb.toArray 27)).heap[w.heap.size]? = some (.cells cd.toArray 27 (0, 0)) := alloc_old hD4
    have hBB : (w4.alloc (.cells cb.toArray 27)).heap[w4.heap.size]? = some (.cells cb.toArray 27 (0, 0)) := alloc_new _ _ rfl
    clear hD4 HK4
    go_wp2_with (first | (refine wpList_store_row rfl 27 _ _ rfl w4.heap.size cb.toArray rfl rfl 27 _ (alloc_new _ _ rfl) hsB HOB.out honeB ?_; rw [setRow_new _ _ _ _ rfl]) | refine wpList_load_wanted (by rfl) 27 _ rfl w4.heap.size rfl 27 cb.toArray (0, 0) _ hBB Tryd.underlying27 rfl hsB ?_ | refine wpList_load_row rfl 27 _ rfl w.heap.size rfl 27 cd.toArray (0, 0) _ hDB Tryd.underlying27 rfl hsD ?_)
    have hD5 := hDB
    have HK5 := HKB
    clear hne hBB hDB HKB hsB honeB HOB
  all_goals
    by_cases hw : width < 1 ∨ 32 < width
    · refine (HCB.out hw _).mono ?_
      rintro e w6 ⟨rfl, hk6⟩
      have hD6 := (hk6.block _ (heap_lt hD5) (fun f => f)).trans hD5
      have HK6 := hid_of (HK5.out.trans hk6)
      have HZ := hid_of (HCZ.out hw)
      have HF := hid_of (HFB.out hw)
      have hsZ : (Tryd.prog.info? 27).map (·.size) = some (zeros32.map (Value.int .u8)).length := by rw [size28]; rfl
      have honeZ := oneCells .u8 zeros32
      have HOZ : Hid (32 = (zeros32.map (Value.int .u8)).toArray.size) := by show 32 = _; rfl
      clear hk6 hD5 HK5 HCB HCZ HFB HCO HFO HEQ
      generalize zeros32.map (Value.int .u8) = cz at *
      have HKC := hid_of (HK6.out.alloc (.cells cz.toArray 27))
      have hDC : (w6.alloc (.cells cz.toArray 27)).heap[w.heap.size]? = some (.cells cd.toArray 27 (0, 0)) := alloc_old hD6
      have hCC : (w6.alloc (.cells cz.toArray 27)).heap[w6.heap.size]? = some (.cells cz.toArray 27 (0, 0)) := alloc_new _ _ rfl
      clear hD6 HK6
      have hg : (decide (1 ≤ width) && decide (width ≤ 32)) = false := by simp; omega
      rcases hw with hw1 | hw1
      · go_wp2_with (first | (refine wpList_store_row rfl 27 _ _ rfl w6.heap.size cz.toArray rfl rfl 27 _ (alloc_new _ _ rfl) hsZ HOZ.out honeZ ?_; rw [setRow_new _ _ _ _ rfl]) | refine wpList_load_row rfl 27 _ rfl w6.heap.size rfl 27 cz.toArray (0, 0) _ hCC Tryd.underlying27 rfl hsZ ?_)
        refine (HZ.out _).mono ?_
        rintro e w7 ⟨rfl, hk7⟩
        have hD7 := (hk7.block _ (heap_lt hDC) (fun f => f)).trans hDC
        have HK7 := hid_of (HKC.out.trans hk7)
        clear hk7 hDC HKC hCC HZ
        have HKE := hid_of (HK7.out.alloc (.cells cz.toArray 27))
        have hDE : (w7.alloc (.cells cz.toArray 27)).heap[w.heap.size]? = some (.cells cd.toArray 27 (0, 0)) := alloc_old hD7
        go_wp2_with (first | (refine wpList_store_row rfl 27 _ _ rfl w7.heap.size cz.toArray rfl rfl 27 _ (alloc_new _ _ rfl) hsZ HOZ.out honeZ ?_; rw [setRow_new _ _ _ _ rfl]) | refine wpList_load_row rfl 27 _ rfl w.heap.size rfl 27 cd.toArray (0, 0) _ hDE Tryd.underlying27 rfl hsD ?_)
        refine (HF.out _).mono ?_
        rintro e w8 ⟨rfl, hk8⟩
        have HK8 := hid_of (HKE.out.trans hk8)
        clear hk8
        go_wp2_with fail
        go_ret
        exact ⟨rfl, HK8.out⟩
      · have hw2 : 1 ≤ width := by omega
        go_wp2_with (first | (refine wpList_store_row rfl 27 _ _ rfl w6.heap.size cz.toArray rfl rfl 27 _ (alloc_new _ _ rfl) hsZ HOZ.out honeZ ?_; rw [setRow_new _ _ _ _ rfl]) | refine wpList_load_row rfl 27 _ rfl w6.heap.size rfl 27 cz.toArray (0, 0) _ hCC Tryd.underlying27 rfl hsZ ?_)
        refine (HZ.out _).mono ?_
        rintro e w7 ⟨rfl, hk7⟩
        have hD7 := (hk7.block _ (heap_lt hDC) (fun f => f)).trans hDC
        have HK7 := hid_of (HKC.out.trans hk7)
        clear hk7 hDC HKC hCC HZ
        have HKE := hid_of (HK7.out.alloc (.cells cz.toArray 27))
        have hDE : (w7.alloc (.cells cz.toArray 27)).heap[w.heap.size]? = some (.cells cd.toArray 27 (0, 0)) := alloc_old hD7
        go_wp2_with (first | (refine wpList_store_row rfl 27 _ _ rfl w7.heap.size cz.toArray rfl rfl 27 _ (alloc_new _ _ rfl) hsZ HOZ.out honeZ ?_; rw [setRow_new _ _ _ _ rfl]) | refine wpList_load_row rfl 27 _ rfl w.heap.size rfl 27 cd.toArray (0, 0) _ hDE Tryd.underlying27 rfl hsD ?_)
        refine (HF.out _).mono ?_
        rintro e w8 ⟨rfl, hk8⟩
        have HK8 := hid_of (HKE.out.trans hk8)
        clear hk8
        go_wp2_with fail
        go_ret
        exact ⟨rfl, HK8.out⟩
    · obtain ⟨k, rfl⟩ := Int.eq_ofNat_of_zero_le (show 0 ≤ width by omega)
      have h1 : 1 ≤ k := by omega
      have h2 : k ≤ 32 := by omega
      refine (HCO.out k h1 h2 _).mono ?_
      rintro e w6 ⟨rfl, hk6⟩
      have hD6 := (hk6.block _ (heap_lt hD5) (fun f => f)).trans hD5
      have HK6 := hid_of (HK5.out.trans hk6)
      have HCA := hid_of (fun W => cut_again d k hd h1 h2 W)
      have HFC := hid_of (fun W => fits_cut d k hd h1 h2 W)
      have HFD := hid_of (HFO.out k h1 h2)
      have hea := fun W => run_eql32 W 27 (cutL d k) (cutL d k) Tryd.underlying27 (cutL_length d k hd h2) (cutL_length d k hd h2)
      rw [decide_eq_true (rfl : cutL d k = cutL d k)] at hea
      have hed := HEQ.out k h2
      have hsC : (Tryd.prog.info? 27).map (·.size) = some ((cutL d k).map (Value.int .u8)).length := by rw [size28, List.length_map, cutL_length d k hd h2]
      have honeC := oneCells .u8 (cutL d k)
      have HOC : Hid (32 = ((cutL d k).map (Value.int .u8)).toArray.size) := by show 32 = _; simp [cutL_length d k hd h2]
      clear hk6 hD5 HK5 HCB HCZ HFB HCO HFO HEQ
      generalize hcc : (cutL d k).map (Value.int .u8) = cc at *
      have HCC := hid_of hcc
      have HKC := hid_of (HK6.out.alloc (.cells cc.toArray 27))
      have hDC : (w6.alloc (.cells cc.toArray 27)).heap[w.heap.size]? = some (.cells cd.toArray 27 (0, 0)) := alloc_old hD6
      have hCC : (w6.alloc (.cells cc.toArray 27)).heap[w6.heap.size]? = some (.cells cc.toArray 27 (0, 0)) := alloc_new _ _ rfl
      have HEA := hid_of hea
      have HED := hid_of hed
      clear hD6 HK6 hcc hea hed hw
      have hk1 : 1 ≤ (k : Int) := by omega
      have hk2 : (k : Int) ≤ 32 := by omega
      go_wp2_with (first | (refine wpList_store_row rfl 27 _ _ rfl w6.heap.size cc.toArray rfl rfl 27 _ (alloc_new _ _ rfl) hsC HOC.out honeC ?_; rw [setRow_new _ _ _ _ rfl]) | refine wpList_load_row rfl 27 _ rfl w6.heap.size rfl 27 cc.toArray (0, 0) _ hCC Tryd.underlying27 rfl hsC ?_)
      refine (HCA.out _).mono ?_
      rintro e w7 ⟨rfl, hk7⟩
      have hD7 := (hk7.block _ (heap_lt hDC) (fun f => f)).trans hDC
      have hC7 := (hk7.block _ (heap_lt hCC) (fun f => f)).trans hCC
      have HK7 := hid_of (HKC.out.trans hk7)
      clear hk7 hDC HKC hCC HCA
      have HKE := hid_of (HK7.out.alloc (.cells cc.toArray 27))
      have hDE : (w7.alloc (.cells cc.toArray 27)).heap[w.heap.size]? = some (.cells cd.toArray 27 (0, 0)) := alloc_old hD7
      have hCE : (w7.alloc (.cells cc.toArray 27)).heap[w6.heap.size]? = some (.cells cc.toArray 27 (0, 0)) := alloc_old hC7
      have hAE : (w7.alloc (.cells cc.toArray 27)).heap[w7.heap.size]? = some (.cells cc.toArray 27 (0, 0)) := alloc_new _ _ rfl
      go_wp2_with (refine wpList_store_row rfl 27 _ _ rfl w7.heap.size cc.toArray rfl rfl 27 _ (alloc_new _ _ rfl) hsC HOC.out honeC ?_; rw [setRow_new _ _ _ _ rfl])
      go_loopw [16] (fun i wr => ∃ n : Nat, n ≤ 32 ∧ i = .int .i64 n ∧ wr.heap[w.heap.size]? = some (.cells cd.toArray 27 (0, 0)) ∧ wr.heap[w6.heap.size]? = some (.cells cc.toArray 27 (0, 0)) ∧ wr.heap[w7.heap.size]? = some (.cells cc.toArray 27 (0, 0)) ∧ Kept (fun _ => False) w wr) (fun i _ => 32 - (intOf i).toNat)
      case atStart => exact ⟨0, by omega, rfl, hDE, hCE, hAE, HKE.out⟩
      case round =>
        obtain ⟨n, hn, rfl, hDr, hCr, hAr, hKr⟩ := hrel
        by_cases hlt : n < 32
        · have hcd : wr.cell? ⟨w.heap.size, n, none⟩ = some (.int .u8 (d.getD n 0)) := by
            rw [cell_block _ _ _ _ _ _ hDr, ← HCD.out]
            simp [List.getD, hlt, hd]
          have hcc : wr.cell? ⟨w6.heap.size, n, none⟩ = some (.int .u8 (if n < k then d.getD n 0 else 0)) := by
            rw [cell_block _ _ _ _ _ _ hCr, ← HCC.out, ← cutL_at d k n hd h2 hlt]
            simp [List.getD, hlt, cutL_length d k hd h2]
          have HDr := hid_of hDr
          have HCr := hid_of hCr
          have HAr := hid_of hAr
          have HKr := hid_of hKr
          generalize d.getD n 0 = x at *
          clear hDr hCr hAr hKr hDE hCE hAE HKE hD7 hC7 HK7
          have hnI : (n : Int) < 32 := by omega
          by_cases hnk : n < k
          · rw [if_pos hnk] at hcc
            have hnkI : (n : Int) < (k : Int) := by omega
            have hnkJ : decide ((k : Int) ≤ (n : Int)) = false := by simp; omega
            have hnkL : ((k : Int) ≤ (n : Int)) ↔ False := ⟨fun h => by omega, False.elim⟩
            have hnkM : ((k : Nat) ≤ n) ↔ False := ⟨fun h => by omega, False.elim⟩
            have hxx : (x != x) = false := by simp
            go_wp2
            go_quiet (fail)
            go_wp2
            go_roundw
            case rel => exact ⟨n + 1, by omega, by go_num, HDr.out, HCr.out, HAr.out, by first | exact HKr.out | exact HKr.out.trans ⟨rfl, rfl, rfl, Nat.le_refl _, fun _ _ _ => rfl⟩⟩
            case measure => simp [intOf]; omega
          · rw [if_neg hnk] at hcc
            have hnkI : ¬ (n : Int) < (k : Int) := by omega
            have hnkJ : (k : Int) ≤ (n : Int) := by omega
            go_wp2
            go_quiet (fail)
            go_wp2
            go_roundw
            case rel => exact ⟨n + 1, by omega, by go_num, HDr.out, HCr.out, HAr.out, by first | exact HKr.out | exact HKr.out.trans ⟨rfl, rfl, rfl, Nat.le_refl _, fun _ _ _ => rfl⟩⟩
            case measure => simp [intOf]; omega
        · obtain rfl : n = 32 := by omega
          have HRD := hid_of (rangeL hDr)
          have HRC := hid_of (rangeL hCr)
          have HRA := hid_of (rangeL hAr)
          have HKr := hid_of hKr
          clear hDr hCr hAr hKr hDE hCE hAE HKE hD7 hC7 HK7 HOC HOS honeC hone
          have hea := HEA.out
          have hed := HED.out
          generalize decide (cutL d k = d) = q at *
          go_wp2_with fail
          have HB : Hid (Kept (fun _ => False) wr wr.drew) := (Kept.refl _ wr).drew
          refine wp_region_held_drew (S := fun w' => w'.rangeAt w6.heap.size 0 cc ∧ w'.rangeAt w7.heap.size 0 cc ∧ w'.rangeAt w.heap.size 0 cd) (by kernel_rfl) ⟨range_kept HRC.out HB.out (fun f => f), range_kept HRA.out HB.out (fun f => f), range_kept HRD.out HB.out (fun f => f)⟩ (fun hHeld => ?_)
          refine wpAnyH_take (i := 0) (v := .agg cc.toArray) rfl (by kernel_rfl) (by kernel_rfl) (by kernel_rfl) (fun _ _ _ h => h) (yieldsIf_load_mid (by rfl) 27 _ rfl w6.heap.size 0 rfl cc _ (fun w hSw => hSw.1) hu rfl hsC) (by assumption) ?_
          try simp only [Act.put, List.getElem_toArray, List.getElem_cons_zero, List.getElem_cons_succ, List.setIfInBounds_toArray, List.set_cons_zero, List.set_cons_succ]
          refine wpAnyH_take (i := 1) (v := ?_) rfl (by kernel_rfl) (by kernel_rfl) (by kernel_rfl) (fun _ _ _ h => h) (Or.inl ⟨by rfl, ?_⟩) (by assumption) ?_
          rotate_left 1
          · intro w hSw
            go_simp
            try with_reducible rfl
          try simp only [Act.put, List.getElem_toArray, List.getElem_cons_zero, List.getElem_cons_succ, List.setIfInBounds_toArray, List.set_cons_zero, List.set_cons_succ]
          refine wpAnyH_ready (rs := [2]) (by kernel_rfl) (by simp) ?_
          refine AllReadyH.cons rfl (fun K hK => ?_) AllReadyH.nil
          go_simp
          refine (HFC.out _).mono ?_
          rintro e w' ⟨rfl, hk'⟩
          replace HB := hid_of (HB.out.trans hk')
          clear hk'
          refine hK.out _ _ ⟨range_kept HRC.out HB.out (fun f => f), range_kept HRA.out HB.out (fun f => f), range_kept HRD.out HB.out (fun f => f)⟩ (fun hHeld => ?_)
          clear hK K
          try simp only [Act.put, List.getElem_toArray, List.getElem_cons_zero, List.getElem_cons_succ, List.setIfInBounds_toArray, List.set_cons_zero, List.set_cons_succ]
          refine wpAnyH_take (i := 3) (v := ?_) rfl (by kernel_rfl) (by kernel_rfl) (by kernel_rfl) (fun _ _ _ h => h) (Or.inl ⟨by rfl, ?_⟩) (by assumption) ?_
          rotate_left 1
          · intro w hSw
            go_simp
            try with_reducible rfl
          try simp only [Act.put, List.getElem_toArray, List.getElem_cons_zero, List.getElem_cons_succ, List.setIfInBounds_toArray, List.set_cons_zero, List.set_cons_succ]
          refine wpAnyH_take (i := 4) (v := .agg cc.toArray) rfl (by kernel_rfl) (by kernel_rfl) (by kernel_rfl) (fun _ _ _ h => h) (yieldsIf_load_mid (by rfl) 27 _ rfl w7.heap.size 0 rfl cc _ (fun w hSw => hSw.2.1) hu rfl hsC) (by assumption) ?_
          try simp only [Act.put, List.getElem_toArray, List.getElem_cons_zero, List.getElem_cons_succ, List.setIfInBounds_toArray, List.set_cons_zero, List.set_cons_succ]
          refine wpAnyH_take (i := 5) (v := .agg cc.toArray) rfl (by kernel_rfl) (by kernel_rfl) (by kernel_rfl) (fun _ _ _ h => h) (yieldsIf_load_mid (by rfl) 27 _ rfl w6.heap.size 0 rfl cc _ (fun w hSw => hSw.1) hu rfl hsC) (by assumption) ?_
          try simp only [Act.put, List.getElem_toArray, List.getElem_cons_zero, List.getElem_cons_succ, List.setIfInBounds_toArray, List.set_cons_zero, List.set_cons_succ]
          refine wpAnyH_take (i := 6) (v := ?_) rfl (by kernel_rfl) (by kernel_rfl) (by kernel_rfl) (fun _ _ _ h => h) (Or.inl ⟨by rfl, ?_⟩) (by assumption) ?_
          rotate_left 1
          · intro w hSw
            go_simp
            try with_reducible rfl
          try simp only [Act.put, List.getElem_toArray, List.getElem_cons_zero, List.getElem_cons_succ, List.setIfInBounds_toArray, List.set_cons_zero, List.set_cons_succ]
          refine wpAnyH_take (i := 7) (v := ?_) rfl (by kernel_rfl) (by kernel_rfl) (by kernel_rfl) (fun _ _ _ h => h) (Or.inl ⟨by rfl, ?_⟩) (by assumption) ?_
          rotate_left 1
          · intro w hSw
            go_simp
            try with_reducible rfl
          try simp only [Act.put, List.getElem_toArray, List.getElem_cons_zero, List.getElem_cons_succ, List.setIfInBounds_toArray, List.set_cons_zero, List.set_cons_succ]
          refine wpAnyH_take (i := 8) (v := ?_) rfl (by kernel_rfl) (by kernel_rfl) (by kernel_rfl) (fun _ _ _ h => h) (Or.inl ⟨by rfl, ?_⟩) (by assumption) ?_
          rotate_left 1
          · intro w hSw
            go_simp
            try with_reducible rfl
          try simp only [Act.put, List.getElem_toArray, List.getElem_cons_zero, List.getElem_cons_succ, List.setIfInBounds_toArray, List.set_cons_zero, List.set_cons_succ]
          refine wpAnyH_take (i := 9) (v := .agg cd.toArray) rfl (by kernel_rfl) (by kernel_rfl) (by kernel_rfl) (fun _ _ _ h => h) (yieldsIf_load_mid (by rfl) 27 _ rfl w.heap.size 0 rfl cd _ (fun w hSw => hSw.2.2) hu rfl hsD) (by assumption) ?_
          try simp only [Act.put, List.getElem_toArray, List.getElem_cons_zero, List.getElem_cons_succ, List.setIfInBounds_toArray, List.set_cons_zero, List.set_cons_succ]
          refine wpAnyH_take (i := 10) (v := ?_) rfl (by kernel_rfl) (by kernel_rfl) (by kernel_rfl) (fun _ _ _ h => h) (Or.inl ⟨by rfl, ?_⟩) (by assumption) ?_
          rotate_left 1
          · intro w hSw
            go_simp
            try with_reducible rfl
          try simp only [Act.put, List.getElem_toArray, List.getElem_cons_zero, List.getElem_cons_succ, List.setIfInBounds_toArray, List.set_cons_zero, List.set_cons_succ]
          refine wpAnyH_take (i := 12) (v := .agg cc.toArray) rfl (by kernel_rfl) (by kernel_rfl) (by kernel_rfl) (fun _ _ _ h => h) (yieldsIf_load_mid (by rfl) 27 _ rfl w6.heap.size 0 rfl cc _ (fun w hSw => hSw.1) hu rfl hsC) (by assumption) ?_
          try simp only [Act.put, List.getElem_toArray, List.getElem_cons_zero, List.getElem_cons_succ, List.setIfInBounds_toArray, List.set_cons_zero, List.set_cons_succ]
          refine wpAnyH_take (i := 13) (v := .agg cd.toArray) rfl (by kernel_rfl) (by kernel_rfl) (by kernel_rfl) (fun _ _ _ h => h) (yieldsIf_load_mid (by rfl) 27 _ rfl w.heap.size 0 rfl cd _ (fun w hSw => hSw.2.2) hu rfl hsD) (by assumption) ?_
          try simp only [Act.put, List.getElem_toArray, List.getElem_cons_zero, List.getElem_cons_succ, List.setIfInBounds_toArray, List.set_cons_zero, List.set_cons_succ]
          refine wpAnyH_take (i := 14) (v := ?_) rfl (by kernel_rfl) (by kernel_rfl) (by kernel_rfl) (fun _ _ _ h => h) (Or.inl ⟨by rfl, ?_⟩) (by assumption) ?_
          rotate_left 1
          · intro w hSw
            go_simp
            try with_reducible rfl
          try simp only [Act.put, List.getElem_toArray, List.getElem_cons_zero, List.getElem_cons_succ, List.setIfInBounds_toArray, List.set_cons_zero, List.set_cons_succ]
          refine wpAnyH_ready (rs := [11]) (by kernel_rfl) (by simp) ?_
          refine AllReadyH.cons rfl (fun K hK => ?_) AllReadyH.nil
          go_simp
          refine (HFD.out _).mono ?_
          rintro e w' ⟨rfl, hk'⟩
          replace HB := hid_of (HB.out.trans hk')
          clear hk'
          refine hK.out _ _ ⟨range_kept HRC.out HB.out (fun f => f), range_kept HRA.out HB.out (fun f => f), range_kept HRD.out HB.out (fun f => f)⟩ (fun hHeld => ?_)
          clear hK K
          try simp only [Act.put, List.getElem_toArray, List.getElem_cons_zero, List.getElem_cons_succ, List.setIfInBounds_toArray, List.set_cons_zero, List.set_cons_succ]
          refine wpAnyH_take (i := 15) (v := ?_) rfl (by kernel_rfl) (by kernel_rfl) (by kernel_rfl) (fun _ _ _ h => h) (Or.inl ⟨by rfl, ?_⟩) (by assumption) ?_
          rotate_left 1
          · intro w hSw
            go_simp
            try with_reducible rfl
          try simp only [Act.put, List.getElem_toArray, List.getElem_cons_zero, List.getElem_cons_succ, List.setIfInBounds_toArray, List.set_cons_zero, List.set_cons_succ]
          refine wpAnyH_take (i := 16) (v := ?_) rfl (by kernel_rfl) (by kernel_rfl) (by kernel_rfl) (fun _ _ _ h => h) (Or.inl ⟨by rfl, ?_⟩) (by assumption) ?_
          rotate_left 1
          · intro w hSw
            go_simp
            try with_reducible rfl
          try simp only [Act.put, List.getElem_toArray, List.getElem_cons_zero, List.getElem_cons_succ, List.setIfInBounds_toArray, List.set_cons_zero, List.set_cons_succ]
          refine wpAnyH_take (i := 17) (v := ?_) rfl (by kernel_rfl) (by kernel_rfl) (by kernel_rfl) (fun _ _ _ h => h) (Or.inl ⟨by rfl, ?_⟩) (by assumption) ?_
          rotate_left 1
          · intro w hSw
            go_simp
            try with_reducible rfl
          try simp only [Act.put, List.getElem_toArray, List.getElem_cons_zero, List.getElem_cons_succ, List.setIfInBounds_toArray, List.set_cons_zero, List.set_cons_succ]
          refine wpAnyH_done (by kernel_rfl) ?_ _
          go_wp2_with fail
          go_ret
          exact ⟨by simp, HKr.out.trans HB.out⟩
end Go.Proofs.YtdbogfjkaebeoabDoor

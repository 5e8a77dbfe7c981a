/-
  sum.widened by contract.
-/
import Derived.Test.YtjdbmjkidljhpaaDoorMem
namespace Go.Proofs.YtjdbmjkidljhpaaDoor
open Go.RowKit
set_option linter.unusedVariables false
set_option linter.unusedSimpArgs false

theorem size49 : (Tryd.prog.info? 97).map (·.size) = some 64 := by kernel_rfl
theorem size5 : (Tryd.prog.info? 5).map (·.size) = some 1 := by kernel_rfl
theorem size79 : (Tryd.prog.info? 104).map (·.size) = some 64 := by kernel_rfl

theorem part_step (bs : List Int) (k : Nat) : up (partw bs (k / 4) (min 4 (k - 4 * (k / 4)))) (bs.getD k 0) = partw bs (k / 4) (min 4 (k + 1 - 4 * (k / 4))) := by
  have e : min 4 (k + 1 - 4 * (k / 4)) = min 4 (k - 4 * (k / 4)) + 1 := by omega
  rw [e, partw]
  congr 2
  omega

theorem next_step (bs : List Int) (k : Nat) (hk : k < 48) (j : Nat) (hj : j < 16 + (k + 1)) (hne : j ≠ k + 16) : j < 16 + k ∧ (grown (first bs) (k + 1)).getD j 0 = (grown (first bs) k).getD j 0 := by
  have hl : (grown (first bs) k).length = 16 + k := by rw [grown_length, first_length]
  refine ⟨by omega, ?_⟩
  rw [grown, List.getD, List.getD, List.getElem?_append_left (by omega)]
theorem next_at (bs : List Int) (k : Nat) : (grown (first bs) (k + 1)).getD (k + 16) 0 = nextw (grown (first bs) k) k := by
  have hl : (grown (first bs) k).length = 16 + k := by rw [grown_length, first_length]
  rw [grown, List.getD, List.getElem?_append_right (by omega), hl, show k + 16 - (16 + k) = 0 by omega]
  rfl

set_option maxRecDepth 100000 in
set_option maxHeartbeats 1000000 in
theorem wide_any (bs : List Int) (hl : bs.length = 64) (hr : ∀ x ∈ bs, 0 ≤ x ∧ x < 256) (w : World) :
    Calls Tryd.prog 66 #[.agg (bs.map (Value.int .u8)).toArray] w fun e w' => e = .returned (.agg ((wide bs).map (Value.int .u32)).toArray) ∧ Kept (fun _ => False) w w' := by
  have HR := hid_of hr
  clear hr
  have hs49 : (Tryd.prog.info? 97).map (·.size) = some (bs.map (Value.int .u8)).toArray.size := by simp [size49, hl]
  go_enter Tryd.func66, Tryd.ntmps66
  go_wp2_with (refine wpList_load_row rfl 97 _ rfl w.heap.size rfl 97 (bs.map (Value.int .u8)).toArray (0, 0) _ (alloc_old (alloc_old (alloc_new _ _ rfl))) Tryd.underlying97 rfl hs49 ?_)
  go_loopw [10] (fun i wr => ∃ k : Nat, k ≤ 64 ∧ i = .int .i64 k ∧ Words wr (w.heap.size + 1 + 1) 16 (fun j => partw bs j (min 4 (k - 4 * j))) ∧ Words wr (w.heap.size + 1) 0 (fun _ => 0) ∧ Kept (fun _ => False) w wr) (fun i _ => 64 - (intOf i).toNat)
  case atStart =>
    refine ⟨0, by omega, rfl, ⟨_, alloc_new _ _ (by simp), rfl, fun j hj => ?_⟩, ⟨_, alloc_old (alloc_new _ _ (by simp)), rfl, fun j hj => absurd hj (by omega)⟩, (((Kept.refl _ _).alloc _).alloc _).alloc _⟩
    show _ = some (Value.int .u32 (partw bs j (min 4 (0 - 4 * j))))
    rw [show min 4 (0 - 4 * j) = 0 by omega]
    show ((List.replicate 64 (Value.int .u32 0)).toArray)[j]? = some (Value.int .u32 0)
    rw [List.getElem?_toArray, List.getElem?_replicate, if_pos (by omega)]
  case round =>
    obtain ⟨k, hk, rfl, hW, hR, hK⟩ := hrel
    by_cases hlt : k < 64
    · have hc := hW.cell (k := k / 4) (by omega)
      obtain ⟨_, hfz⟩ := hW.there (k := k / 4) (by omega)
      have hst := part_step bs k
      have hcr : 0 ≤ bs.getD k 0 ∧ bs.getD k 0 < 256 := HR.out _ (by rw [List.getD, List.getElem?_eq_getElem (by omega)]; simp)
      have hix : ∀ w, (Instr.index 97 (.agg (bs.map (Value.int .u8)).toArray) (.int .i64 (k : Int))).run Tryd.prog w = .ok (.int .u8 (bs.getD k 0)) w := fun w => run_index_agg w 97 5 64 _ _ k _ _ Tryd.underlying97 Tryd.underlying5 rfl size5 hlt (by simp [List.getD, hlt, hl])
      generalize bs.getD k 0 = c at *
      generalize hv : partw bs (k / 4) (min 4 (k - 4 * (k / 4))) = v at *
      have HS : Hid (Words (wr.setCell ⟨w.heap.size + 1 + 1, k / 4, none⟩ (.int .u32 (bits .or .u32 (v * 256 % 4294967296) (c % 4294967296)))) (w.heap.size + 1 + 1) 16 (fun j => partw bs j (min 4 (k + 1 - 4 * j)))) := hW.set (by omega) _ (by
          rw [← hst, up, Int.emod_eq_of_lt (a := c) hcr.1 (by omega)]) (fun j hj hne => ⟨hj, by
          rw [show min 4 (k + 1 - 4 * j) = min 4 (k - 4 * j) by omega]⟩)
      have HT : Hid (Words (wr.setCell ⟨w.heap.size + 1 + 1, k / 4, none⟩ (.int .u32 (bits .or .u32 (v * 256 % 4294967296) (c % 4294967296)))) (w.heap.size + 1) 0 (fun _ => 0)) := hR.other _ _ (by show _ ≠ w.heap.size + 1 + 1; omega)
      have HK := hid_of hK
      have hkI : (k : Int) < 64 := by omega
      clear hW hK hst hcr hv hR
      go_wp2
      go_roundw
      case rel => exact ⟨k + 1, by omega, by go_num, HS.out, HT.out, HK.out.setCell (.inl (by show _ ≤ _ + 1 + 1; omega)) _⟩
      case measure => simp [intOf]; omega
    · obtain rfl : k = 64 := by omega
      have HW : Hid (Words wr (w.heap.size + 1 + 1) 16 fun j => (first bs).getD j 0) := by
        obtain ⟨cur, h0, h1, h2⟩ := hW
        refine ⟨cur, h0, h1, fun j hj => ?_⟩
        rw [h2 j hj]
        show some (Value.int .u32 (partw bs j (min 4 (64 - 4 * j)))) = some (Value.int .u32 ((first bs).getD j 0))
        rw [show min 4 (64 - 4 * j) = 4 by omega, ← word_part]
        simp [first, List.getD, hj]
      have HK := hid_of hK
      have HT := hid_of hR
      clear hW hK hR
      go_wp2
      generalize Value.int IntKind.i64 ((64 : Nat) : Int) = d10
      go_loopw [26] (fun i wr => ∃ k : Nat, k ≤ 48 ∧ i = .int .i64 k ∧ Words wr (w.heap.size + 1 + 1) (16 + k) (fun j => (grown (first bs) k).getD j 0) ∧ Words wr (w.heap.size + 1) 0 (fun _ => 0) ∧ Kept (fun _ => False) w wr) (fun i _ => 48 - (intOf i).toNat)
      case atStart => exact ⟨0, by omega, rfl, HW.out, HT.out, HK.out⟩
      case round =>
        clear HW HK HT
        obtain ⟨k, hk, rfl, hW, hR, hK⟩ := hrel
        by_cases hlt : k < 48
        · have hc0 := hW.cell (k := k) (by omega)
          have hc1 := hW.cell (k := k + 1) (by omega)
          have hc9 := hW.cell (k := k + 9) (by omega)
          have hc14 := hW.cell (k := k + 14) (by omega)
          have hn := next_at bs k
          rw [nextw] at hn
          generalize (grown (first bs) k).getD k 0 = v0 at *
          generalize (grown (first bs) k).getD (k + 1) 0 = v1 at *
          generalize (grown (first bs) k).getD (k + 9) 0 = v9 at *
          generalize (grown (first bs) k).getD (k + 14) 0 = v14 at *
          have hkI : (k : Int) < 48 := by omega
          obtain ⟨⟨u16', hu16⟩, hf16⟩ := hW.there (k := k + 16) (by omega)
          have HS : Hid (∀ q, Words ((wr.drewN q).setCell ⟨w.heap.size + 1 + 1, k + 16, none⟩ (.int .u32 (add (add (add v0 (sg0 v1)) v9) (sg1 v14)))) (w.heap.size + 1 + 1) (16 + (k + 1)) (fun j => (grown (first bs) (k + 1)).getD j 0)) := fun q =>
            (show Words (wr.drewN q) _ _ _ from hW).set (by omega) _ hn (fun j hj hne => next_step bs k hlt j hj hne)
          have HT : Hid (∀ q x, Words ((wr.drewN q).setCell ⟨w.heap.size + 1 + 1, k + 16, none⟩ x) (w.heap.size + 1) 0 (fun _ => 0)) := fun q x => (show Words (wr.drewN q) _ _ _ from hR).other _ _ (by show _ ≠ w.heap.size + 1 + 1; omega)
          have HK : Hid (∀ q x, Kept (fun _ => False) w ((wr.drewN q).setCell ⟨w.heap.size + 1 + 1, k + 16, none⟩ x)) := fun q x => (kept_drewN hK q).setCell (.inl (by show _ ≤ _ + 1 + 1; omega)) _
          clear hW hK hn hR
          go_wp2
          have hb0 : (0 : Int) ≤ (k : Int) := by omega
          have hb1 : (k : Int) < 64 := by omega
          have hb2 : (0 : Int) ≤ (k : Int) + 9 := by omega
          have hb3 : (k : Int) + 9 < 64 := by omega
          have hb4 : (0 : Int) ≤ (k : Int) + 16 := by omega
          have hb5 : (k : Int) + 16 < 64 := by omega
          go_quiet (fail)
          go_wp2
          have hw9 : IntKind.i64.wrap ((k : Int) + 9) = (k : Int) + 9 := by simp [IntKind.wrap, IntKind.bits, IntKind.signed]; omega
          have hw16 : IntKind.i64.wrap ((k : Int) + 16) = (k : Int) + 16 := by simp [IntKind.wrap, IntKind.bits, IntKind.signed]; omega
          have ht9 : ((k : Int) + 9).toNat = k + 9 := by omega
          have ht16 : ((k : Int) + 16).toNat = k + 16 := by omega
          go_region_held3 (fun w' => w'.cell? ⟨w.heap.size + 1 + 1, k, none⟩ = some (.int .u32 v0) ∧ w'.cell? ⟨w.heap.size + 1 + 1, k + 9, none⟩ = some (.int .u32 v9)) (first | go_keep | exact ⟨(cell_far _ _ _ _ _ (by omega)).trans hc0, (cell_far _ _ _ _ _ (by omega)).trans hc9⟩)
            (first | (go_at_call 67; refine (ror_int _ _ (by decide) (by decide) _).mono ?_; rintro e w' ⟨rfl, rfl⟩))
          go_wp2
          go_roundw
          case rel =>
            exact ⟨k + 1, by omega, by go_num, HS.out _, HT.out _ _, HK.out _ _⟩
          case measure => simp [intOf]; omega
        · obtain rfl : k = 48 := by omega
          obtain ⟨cur, hB, hsz, hcur⟩ := hW
          obtain rfl := words_list hsz (wide_length bs) hcur
          obtain ⟨old, hO, hosz, _⟩ := hR
          have h1 := oneCells .u32 (wide bs)
          have hs79 : (Tryd.prog.info? 104).map (·.size) = some ((wide bs).map (Value.int .u32)).toArray.size := by simp [size79, wide_length]
          have hos : old.size = ((wide bs).map (Value.int .u32)).toArray.size := by simp [hosz, wide_length]
          have HKR : Hid (Kept (fun _ => False) w (wr.setRow (w.heap.size + 1) ((wide bs).map (Value.int .u32)).toArray)) := hK.setRow (.inl (by omega)) _
          have HRR := hid_of (setRow_heap wr (w.heap.size + 1) old ((wide bs).map (Value.int .u32)).toArray 104 (0, 0) hO)
          clear hcur hsz hosz hK
          generalize hcs : ((wide bs).map (Value.int .u32)).toArray = cs at *
          have HC := hid_of hcs
          clear hcs
          go_wp2_with (first | refine wpList_load_row rfl 104 _ rfl (w.heap.size + 1 + 1) rfl 104 cs (0, 0) _ hB Tryd.underlying104 rfl hs79 ?_ | refine wpList_store_row rfl 104 _ _ rfl (w.heap.size + 1) cs rfl rfl 104 old hO hs79 hos h1 ?_)
          refine bodyPost_ret (v := .agg cs) ?_ rfl ⟨by rw [HC.out], HKR.out⟩
          exact results_cell_row (by rfl) _ _ (w.heap.size + 1) 104 cs (0, 0) _ (by rfl) HRR.out Tryd.underlying104 rfl hs79
end Go.Proofs.YtjdbmjkidljhpaaDoor

/-
  The walk of SumKnown.
-/
import Derived.Test.YtdbogfjkaebeoabDoorFacts
import Derived.Test.YtdbogfjkaebeoabDoorKnown
namespace Go.Proofs.YtdbogfjkaebeoabDoor
open Go.RowKit
set_option linter.unusedVariables false
set_option linter.unusedSimpArgs false

theorem fill_at (j : Nat) (hj : j < 1000) : fill.getD j 0 = (j : Int) * 7 % 256 := by
  simp [fill, List.getD, hj]
theorem fill_length : fill.length = 1000 := by simp [fill]

theorem fill_range : ∀ x ∈ fill, 0 ≤ x ∧ x < 256 := by
  intro x hx
  simp only [fill, List.mem_map] at hx
  obtain ⟨i, _, rfl⟩ := hx
  omega
theorem sha_length (xs : List Int) : (sha xs).length = 32 := by simp [sha, dig]
theorem sha_range (xs : List Int) : ∀ x ∈ sha xs, 0 ≤ x ∧ x < 256 := by
  intro x hx
  simp only [sha, dig, List.mem_map, dbyte] at hx
  obtain ⟨i, _, rfl⟩ := hx
  omega
theorem lens_le (j : Nat) (hj : j < 10) : lens.getD j 0 ≤ 1000 := by
  have : ∀ j : Nat, j < 10 → lens.getD j 0 ≤ 1000 := by decide
  exact this j hj

set_option maxRecDepth 100000 in
set_option maxHeartbeats 1000000 in
theorem knowns_walk (w : World) (hL : Laid w) : Calls Tryd.prog 6 #[] w fun e w' => e = .returned (.bool true) ∧ Kept (fun _ => False) w w' := by
  have mk : (Instr.makeSlice 22 (.int .i64 1000) (.int .i64 1000)).run Tryd.prog w = .ok (.slice (some ⟨w.heap.size, 0, none⟩) 1000 1000) (w.alloc (.cells (zer 1000) 5)) := make_any w 1000 (by decide)
  have HL := hid_of hL
  clear hL
  go_enter Tryd.func6, Tryd.ntmps6
  go_wp2
  clear mk
  go_loopw [2] (fun i wr => ∃ k : Nat, k ≤ 1000 ∧ i = .int .i64 k ∧ Row wr w.heap.size 5 .u8 1000 k (fun j => fill.getD j 0) ∧ Kept (fun _ => False) w wr) (fun i _ => 1000 - (intOf i).toNat)
  case atStart => exact ⟨0, by omega, rfl, ⟨_, alloc_new _ _ rfl, zer_size _, fun j hj => absurd hj (by omega)⟩, (Kept.refl _ w).alloc _⟩
  case round =>
    obtain ⟨k, hk, rfl, hR, hK⟩ := hrel
    by_cases hlt : k < 1000
    · obtain ⟨⟨u, hu⟩, hf⟩ := hR.there (k := k) hlt
      have HS : Hid (Row (wr.setCell ⟨w.heap.size, k, none⟩ (.int .u8 ((k : Int) * 7 % 256))) w.heap.size 5 .u8 1000 (k + 1) (fun j => fill.getD j 0)) := hR.set hlt _ (fill_at k hlt) (fun j hj hne => ⟨by omega, rfl⟩)
      have HK : Hid (Kept (fun _ => False) w (wr.setCell ⟨w.heap.size, k, none⟩ (.int .u8 ((k : Int) * 7 % 256)))) := hK.setCell (.inl (Nat.le_refl _)) _
      clear hR hK
      have hkI : (k : Int) < 1000 := by omega
      go_wp2
      go_roundw
      case rel => exact ⟨k + 1, by omega, by go_num, HS.out, HK.out⟩
      case measure => simp [intOf]; omega
    · obtain rfl : k = 1000 := by omega
      obtain ⟨cur, hB, hsz, hcur⟩ := hR
      obtain rfl := row_list hsz fill_length hcur
      have HB := hid_of hB
      have HK := hid_of hK
      clear hB hsz hcur hK
      go_wp2
      generalize hd2 : Value.int IntKind.i64 ((1000 : Nat) : Int) = d2
      generalize hgl : wr.heap.size = gl
      go_loopw [5] (fun i w2 => ∃ k : Nat, k ≤ 10 ∧ i = .int .i64 k ∧ (∀ j, j < 10 → w2.cell? ⟨gl, j, none⟩ = some (.int .i64 (lens.getD j 0 : Nat))) ∧ (∀ j, j < 10 → w2.cell? ⟨gl + 1, j, none⟩ = some (.string (txts.getD j ByteArray.empty))) ∧ w2.heap[w.heap.size]? = some (.cells (fill.map (Value.int .u8)).toArray 5 (0, 0)) ∧ Kept (fun _ => False) w w2) (fun i _ => 10 - (intOf i).toNat)
      case atStart =>
        refine ⟨0, by omega, rfl, fun j hj => (cell_block _ _ _ _ _ _ (alloc_old (alloc_new _ _ hgl.symm))).trans ?_, fun j hj => (cell_block _ _ _ _ _ _ (alloc_new _ _ (by simp [hgl]))).trans ?_, alloc_old (alloc_old HB.out), (HK.out.alloc _).alloc _⟩
        · match j, hj with
          | 0, _ => rfl
          | 1, _ => rfl
          | 2, _ => rfl
          | 3, _ => rfl
          | 4, _ => rfl
          | 5, _ => rfl
          | 6, _ => rfl
          | 7, _ => rfl
          | 8, _ => rfl
          | 9, _ => rw [← hd2]; rfl
        · match j, hj with
          | 0, _ => rfl
          | 1, _ => rfl
          | 2, _ => rfl
          | 3, _ => rfl
          | 4, _ => rfl
          | 5, _ => rfl
          | 6, _ => rfl
          | 7, _ => rfl
          | 8, _ => rfl
          | 9, _ => rfl
      case round =>
        clear HB HK hgl hd2
        obtain ⟨k, hk, rfl, hLn, hTx, hB, hK⟩ := hrel
        by_cases hlt : k < 10
        · have c1 := hLn k hlt
          have c2 := hTx k hlt
          have hn := lens_le k hlt
          have hfact := facts k hlt
          generalize txts.getD k ByteArray.empty = T at *
          generalize lens.getD k 0 = n at *
          have hkI : (k : Int) < 10 := by omega
          have hnI : (n : Int) ≤ 1000 := by omega
          have HLn := hid_of hLn
          have HTx := hid_of hTx
          have HB := hid_of hB
          have HK := hid_of hK
          clear hLn hTx hB hK
          have hb0 : (0 : Int) ≤ (k : Int) := by omega
          have hbn : (0 : Int) ≤ (n : Int) := by omega
          have htl : (fill.take n).length = n := by rw [List.length_take, fill_length]; omega
          have hBI : BIn wr (.slice (some ⟨w.heap.size, 0, none⟩) n 1000) (fill.take n) := by
            refine ⟨_, 1000, by rw [htl], by rw [htl]; exact hn, .inr ⟨w.heap.size, 0, rfl, fun i hi => ?_⟩⟩
            rw [htl] at hi
            rw [cell_block _ _ _ _ _ _ HB.out, Nat.zero_add]
            simp [List.getD, List.getElem?_take_of_lt hi, List.getElem?_eq_getElem (show i < fill.length by rw [fill_length]; omega)]
          have hka : Kept (fun _ => False) wr (wr.drew.alloc (.cells #[.slice (some ⟨w.heap.size, 0, none⟩) n 1000] 22)) := (Kept.refl _ wr).drew.alloc _
          have HOF : Hid (Calls Tryd.prog 10 #[.slice (some ⟨wr.heap.size, 0, none⟩) 1 1] (wr.drew.alloc (.cells #[.slice (some ⟨w.heap.size, 0, none⟩) n 1000] 22)) fun e w' => e = .returned (.agg ((sha (fill.take n)).map (Value.int .u8)).toArray) ∧ Kept (fun _ => False) (wr.drew.alloc (.cells #[.slice (some ⟨w.heap.size, 0, none⟩) n 1000] 22)) w') :=
            of_one _ (fill.take n) _ wr.heap.size (alloc_new _ _ rfl) (hBI.kept hka (fun _ _ f => f)) (fun x hx => fill_range x (List.mem_of_mem_take hx)) (laid_kept HL.out (HK.out.trans hka) (fun f => f)) (by rw [htl]; omega)
          have HTX : Hid (∀ W, Calls Tryd.prog 11 #[.agg ((sha (fill.take n)).map (Value.int .u8)).toArray] W fun e w' => e = .returned (.string T) ∧ Kept (fun _ => False) W w') := fun W => by
            have := text_any (sha (fill.take n)) (sha_length _) (sha_range _) W
            rw [hfact] at this
            exact this
          have HKA := hid_of hka
          clear hfact htl hBI hka
          generalize ((sha (fill.take n)).map (Value.int .u8)).toArray = D at *
          go_wp2
          go_region_held3 (fun w' => w'.cell? ⟨gl, k, none⟩ = some (.int .i64 n) ∧ w'.cell? ⟨gl + 1, k, none⟩ = some (.string T)) (first | with_reducible exact H6.out.1 | with_reducible exact H5.out.1 | exact ⟨c1, c2⟩ | exact ⟨HKA.out.cell c1 (fun f => f), HKA.out.cell c2 (fun f => f)⟩)
            (first | (go_at_call 11; refine (HTX.out w5).mono ?_; rintro e w6 ⟨rfl, hk6⟩; have H6 := hid_of (show (w6.cell? ⟨gl, k, none⟩ = some (.int .i64 n) ∧ w6.cell? ⟨gl + 1, k, none⟩ = some (.string T)) ∧ Kept (fun _ => False) wr w6 from ⟨⟨hk6.cell H5.out.1.1 (fun f => f), hk6.cell H5.out.1.2 (fun f => f)⟩, H5.out.2.trans hk6⟩); clear hk6) | (go_at_call 10; refine HOF.out.mono ?_; rintro e w5 ⟨rfl, hk5⟩; have H5 := hid_of (show (w5.cell? ⟨gl, k, none⟩ = some (.int .i64 n) ∧ w5.cell? ⟨gl + 1, k, none⟩ = some (.string T)) ∧ Kept (fun _ => False) wr w5 from ⟨⟨(HKA.out.trans hk5).cell c1 (fun f => f), (HKA.out.trans hk5).cell c2 (fun f => f)⟩, HKA.out.trans hk5⟩); clear hk5))
          have HR1 : Hid (∀ j, j < 10 → w6.cell? ⟨gl, j, none⟩ = some (.int .i64 (lens.getD j 0 : Nat))) := fun j hj => H6.out.2.cell (HLn.out j hj) (fun f => f)
          have HR2 : Hid (∀ j, j < 10 → w6.cell? ⟨gl + 1, j, none⟩ = some (.string (txts.getD j ByteArray.empty))) := fun j hj => H6.out.2.cell (HTx.out j hj) (fun f => f)
          have HR3 : Hid (w6.heap[w.heap.size]? = some (.cells (fill.map (Value.int .u8)).toArray 5 (0, 0))) := (H6.out.2.block _ (heap_lt HB.out) (fun f => f)).trans HB.out
          have HR4 : Hid (Kept (fun _ => False) w w6) := HK.out.trans H6.out.2
          go_wp2
          go_roundw
          case rel => exact ⟨k + 1, by omega, by go_num, HR1.out, HR2.out, HR3.out, HR4.out⟩
          case measure => simp [intOf]; omega
        · obtain rfl : k = 10 := by omega
          have HK := hid_of hK
          clear hLn hTx hB
          have hcv1 := Joins.run_convert_bytes_const_at (P := Tryd.prog) wr 22 5 #[.int .u8 97, .int .u8 98] 2 2 wr.heap.size rfl Tryd.underlying22 Tryd.underlying5
          have hcv2 := Joins.run_convert_bytes_const_at (P := Tryd.prog) (wr.alloc (.cells #[.int .u8 97, .int .u8 98] 5 (2, 3))) 22 5 #[.int .u8 99] 1 1 (wr.heap.size + 1) (by simp) Tryd.underlying22 Tryd.underlying5
          have hk3 : Kept (fun _ => False) wr (((wr.alloc (.cells #[.int .u8 97, .int .u8 98] 5 (2, 3))).alloc (.cells #[.int .u8 99] 5 (1, 2))).alloc (.cells #[.slice (some ⟨wr.heap.size, 0, none⟩) 2 2, .slice none 0 0, .slice (some ⟨wr.heap.size + 1, 0, none⟩) 1 1] 22)) := (((Kept.refl _ wr).alloc _).alloc _).alloc _
          have HOF : Hid (Calls Tryd.prog 10 #[.slice (some ⟨wr.heap.size + 1 + 1, 0, none⟩) 3 3] (((wr.alloc (.cells #[.int .u8 97, .int .u8 98] 5 (2, 3))).alloc (.cells #[.int .u8 99] 5 (1, 2))).alloc (.cells #[.slice (some ⟨wr.heap.size, 0, none⟩) 2 2, .slice none 0 0, .slice (some ⟨wr.heap.size + 1, 0, none⟩) 1 1] 22)) fun e w' => e = .returned (.agg ((sha [97, 98, 99]).map (Value.int .u8)).toArray) ∧ Kept (fun _ => False) (((wr.alloc (.cells #[.int .u8 97, .int .u8 98] 5 (2, 3))).alloc (.cells #[.int .u8 99] 5 (1, 2))).alloc (.cells #[.slice (some ⟨wr.heap.size, 0, none⟩) 2 2, .slice none 0 0, .slice (some ⟨wr.heap.size + 1, 0, none⟩) 1 1] 22)) w') := by
            have h0 : BIn (((wr.alloc (.cells #[.int .u8 97, .int .u8 98] 5 (2, 3))).alloc (.cells #[.int .u8 99] 5 (1, 2))).alloc (.cells #[.slice (some ⟨wr.heap.size, 0, none⟩) 2 2, .slice none 0 0, .slice (some ⟨wr.heap.size + 1, 0, none⟩) 1 1] 22)) (.slice (some ⟨wr.heap.size, 0, none⟩) 2 2) [97, 98] := bin_new (b := wr.heap.size) (t := 5) (f := (2, 3)) (alloc_old (alloc_old (alloc_new _ _ rfl))) rfl (by decide)
            have h1 : BIn (((wr.alloc (.cells #[.int .u8 97, .int .u8 98] 5 (2, 3))).alloc (.cells #[.int .u8 99] 5 (1, 2))).alloc (.cells #[.slice (some ⟨wr.heap.size, 0, none⟩) 2 2, .slice none 0 0, .slice (some ⟨wr.heap.size + 1, 0, none⟩) 1 1] 22)) (.slice none 0 0) [] := ⟨none, 0, rfl, Nat.le_refl _, .inl rfl⟩
            have h2 : BIn (((wr.alloc (.cells #[.int .u8 97, .int .u8 98] 5 (2, 3))).alloc (.cells #[.int .u8 99] 5 (1, 2))).alloc (.cells #[.slice (some ⟨wr.heap.size, 0, none⟩) 2 2, .slice none 0 0, .slice (some ⟨wr.heap.size + 1, 0, none⟩) 1 1] 22)) (.slice (some ⟨wr.heap.size + 1, 0, none⟩) 1 1) [99] := bin_new (b := wr.heap.size + 1) (t := 5) (f := (1, 2)) (alloc_old (alloc_new _ _ (by simp))) rfl (by decide)
            have hc := cell_block (((wr.alloc (.cells #[.int .u8 97, .int .u8 98] 5 (2, 3))).alloc (.cells #[.int .u8 99] 5 (1, 2))).alloc (.cells #[.slice (some ⟨wr.heap.size, 0, none⟩) 2 2, .slice none 0 0, .slice (some ⟨wr.heap.size + 1, 0, none⟩) 1 1] 22)) (wr.heap.size + 1 + 1) 0 _ _ _ (alloc_new _ _ (by simp))
            have hd := cell_block (((wr.alloc (.cells #[.int .u8 97, .int .u8 98] 5 (2, 3))).alloc (.cells #[.int .u8 99] 5 (1, 2))).alloc (.cells #[.slice (some ⟨wr.heap.size, 0, none⟩) 2 2, .slice none 0 0, .slice (some ⟨wr.heap.size + 1, 0, none⟩) 1 1] 22)) (wr.heap.size + 1 + 1) 1 _ _ _ (alloc_new _ _ (by simp))
            have he := cell_block (((wr.alloc (.cells #[.int .u8 97, .int .u8 98] 5 (2, 3))).alloc (.cells #[.int .u8 99] 5 (1, 2))).alloc (.cells #[.slice (some ⟨wr.heap.size, 0, none⟩) 2 2, .slice none 0 0, .slice (some ⟨wr.heap.size + 1, 0, none⟩) 1 1] 22)) (wr.heap.size + 1 + 1) 2 _ _ _ (alloc_new _ _ (by simp))
            have hP : PIn (((wr.alloc (.cells #[.int .u8 97, .int .u8 98] 5 (2, 3))).alloc (.cells #[.int .u8 99] 5 (1, 2))).alloc (.cells #[.slice (some ⟨wr.heap.size, 0, none⟩) 2 2, .slice none 0 0, .slice (some ⟨wr.heap.size + 1, 0, none⟩) 1 1] 22)) (.slice (some ⟨wr.heap.size + 1 + 1, 0, none⟩) 3 3) [[97, 98], [], [99]] := ⟨_, 3, rfl, fun i hi => by
              match i, hi with
              | 0, _ => exact ⟨_, 0, _, rfl, hc, h0⟩
              | 1, _ => exact ⟨_, 0, _, rfl, hd, h1⟩
              | 2, _ => exact ⟨_, 0, _, rfl, he, h2⟩⟩
            exact of_any _ [[97, 98], [], [99]] _ hP (by decide) (laid_kept HL.out (hK.trans hk3) (fun f => f)) (by decide) (by decide)
          have HTX : Hid (∀ W, Calls Tryd.prog 11 #[.agg ((sha [97, 98, 99]).map (Value.int .u8)).toArray] W fun e w' => e = .returned (.string ⟨#[98, 97, 55, 56, 49, 54, 98, 102, 56, 102, 48, 49, 99, 102, 101, 97, 52, 49, 52, 49, 52, 48, 100, 101, 53, 100, 97, 101, 50, 50, 50, 51, 98, 48, 48, 51, 54, 49, 97, 51, 57, 54, 49, 55, 55, 97, 57, 99, 98, 52, 49, 48, 102, 102, 54, 49, 102, 50, 48, 48, 49, 53, 97, 100]⟩) ∧ Kept (fun _ => False) W w') := fun W => by
            have := text_any (sha [97, 98, 99]) (sha_length _) (sha_range _) W
            rw [abc_fact] at this
            exact this
          have HK3 := hid_of (hK.trans hk3)
          clear hK hk3
          generalize ((sha [97, 98, 99]).map (Value.int .u8)).toArray = D at *
          go_wp2_with fail
          refine HOF.out.mono ?_
          rintro e w5 ⟨rfl, hk5⟩
          have HK5 := hid_of (HK3.out.trans hk5)
          clear hk5 HOF HK3 hcv1 hcv2
          go_wp2_with fail
          refine (HTX.out _).mono ?_
          rintro e w6 ⟨rfl, hk6⟩
          have HK6 := hid_of (HK5.out.trans hk6)
          clear hk6 HTX HK5
          go_wp2
          go_ret
          exact ⟨rfl, HK6.out⟩
end Go.Proofs.YtdbogfjkaebeoabDoor

/-
  TBh: Bh.
-/
import Derived.Test.YtgoabnehdmdikaaGreatDoorTBb
import Derived.Laws.BytesString
namespace Go.Proofs.YtgoabnehdmdikaaGreatDoor
open Go.RowKit
set_option linter.unusedVariables false
set_option linter.unusedSimpArgs false
set_option maxRecDepth 100000

theorem bs_one (w : World) (x : Int) : Bs w (w.alloc (.cells #[.int .u8 x] 5)) (w.alloc (.cells #[.int .u8 x] 5)) (some ⟨w.heap.size, 0, none⟩) 1 1 (byts [x]) :=
  ⟨⟨rfl, .inr ⟨w.heap.size, 1, _, rfl, Nat.le_refl _, heap_alloc_new w _, Nat.le_refl _, by decide, rfl, rfl⟩⟩, (Kept.refl _ _).alloc _, Lib.OthersKept.refl _ _ _⟩
theorem quo16 (x : Int) (h0 : 0 ≤ x) (h1 : x ≤ 255) : IntKind.u8.wrap (x.tdiv 16) = x / 16 := by
  have e : Int.tdiv x 16 = x / 16 := Int.tdiv_eq_ediv_of_nonneg h0
  rw [e]
  simp [IntKind.wrap, IntKind.bits, IntKind.signed]
  omega
theorem rem16 (x : Int) (h0 : 0 ≤ x) : x.tmod 16 = x % 16 := Int.tmod_eq_emod_of_nonneg h0
set_option maxHeartbeats 4000000 in
theorem quoteR_any (dv : Value) (xs : List Int) (w : World) (hx : IsB w dv xs) (hb : ∀ x ∈ xs, 0 ≤ x ∧ x ≤ 255) (hl : xs.length ≤ 1000000000000) :
    Calls Tryz.prog 31 #[dv] w fun e w' => e = .returned (.string (str (quoteA xs))) ∧ Kept (fun _ => False) w w' := by
  obtain ⟨n, hn⟩ : ∃ n, n = xs.length := ⟨_, rfl⟩
  obtain ⟨va, vo, hv⟩ : ∃ (va : Option Addr) (vc : Nat), dv = .slice va n vc := by
    rcases hx with ⟨rfl, ao, c, rfl⟩ | ⟨g, o, c, rfl, _⟩
    · exact ⟨ao, c, by rw [hn]; rfl⟩
    · exact ⟨_, c, by rw [hn]⟩
  have HC : Hid (∀ i, i < n → ∃ g o, va = some ⟨g, o, none⟩ ∧ w.cell? ⟨g, o + i, none⟩ = some (.int .u8 (xs.getD i 0)) ∧ 0 ≤ xs.getD i 0 ∧ xs.getD i 0 ≤ 255) := fun i hi => by
    have hi' : i < xs.length := by omega
    have hm : xs.getD i 0 ∈ xs := by simp [List.getD, List.getElem?_eq_getElem hi']
    rcases hx with ⟨rfl, ao, c, rfl⟩ | ⟨g, o, c, rfl, hc⟩
    · exact absurd hi' (by simp)
    · cases hv
      exact ⟨g, o, rfl, hc i hi', hb _ hm⟩
  have HN := hid_of hn
  have HL : Hid (n ≤ 1000000000000) := by rw [hn]; exact hl
  have HQ0 : Hid (Bs w (w.alloc (.cells #[.int .u8 34] 5)) (w.alloc (.cells #[.int .u8 34] 5)) (some ⟨w.heap.size, 0, none⟩) 1 1 (byts (34 :: (xs.take 0).flatMap qa))) := bs_one w 34
  subst hv
  clear hx hb hl hn
  go_enter Tryz.func31, Tryz.ntmps31
  go_wp2_with fail
  generalize w.alloc (.cells #[.int .u8 34] 5) = w1 at *
  generalize hgx : w.heap.size = gx at HQ0 ⊢
  clear hgx
  have HM1 : Hid (1 ≤ 4 * 0 + 1) := by show 1 ≤ 4 * 0 + 1; omega
  go_loopw [3, 4] (fun qv iv wr => ∃ (i : Nat), iv = .int .i64 (i : Int) ∧ ∃ (ao : Option Addr) (k c : Nat), qv = .slice ao k c ∧ Hid (i ≤ n) ∧ Hid (Bs w w1 wr ao k c (byts (34 :: (xs.take i).flatMap qa))) ∧ Hid (k ≤ 4 * i + 1)) (fun _ iv _ => n - (intOf iv).toNat)
  case atStart => exact ⟨0, rfl, _, _, _, rfl, Nat.zero_le _, HQ0.out, HM1.out⟩
  case round =>
    obtain ⟨i, rfl, ao, k, c, rfl, HI, HQ, HK⟩ := hrel
    clear HQ0 HM1
    by_cases hlt : i < n
    · obtain ⟨g, o, rfl, hc, hc0, hc1⟩ := HC.out i hlt
      have hcell := HQ.out.kept.cell hc (fun f => f)
      have hltI : (i : Int) < (n : Int) := by omega
      have hiB : (i : Int) < 1000000000000 := by have := HL.out; omega
      have HT := hid_of (take_qa xs i (by have := HN.out; omega))
      generalize xs.getD i 0 = x at *
      clear hc
      by_cases h1 : x = 34 ∨ x = 92
      · rcases h1 with rfl | rfl
        · obtain ⟨a', k', c', w', hr, hq⟩ := HQ.out.pushB [92, 34] (by have := HK.out; have := HL.out; have := HI.out; simp; omega)
          have hqb : qa 34 = [92, 34] := rfl
          have HR := hid_of hr
          rw [hqb] at HT
          have HQ2 : Hid (Bs w w1 w' a' k' c' (byts (34 :: (xs.take (i + 1)).flatMap qa))) := by rw [HT.out]; have := byts_more [] ((xs.take i).flatMap qa) [92, 34]; simp only [List.nil_append] at this; rw [← this]; exact hq
          have HK2 : Hid (k' ≤ 4 * (i + 1) + 1) := by show k' ≤ 4 * (i + 1) + 1; have h := HQ.out.step hq; have := HK.out; simp [byts] at h; omega
          clear hr hq hqb HT HQ HK HI
          go_wp2_with (at_builtin; refine wp_app2 rfl (.tmp 33) (.tmp 35) 23 23 rfl _ _ rfl rfl _ w' HR.out ?_)
          go_roundw
          case rel => exact ⟨i + 1, by go_num, _, _, _, rfl, hlt, HQ2, HK2⟩
          case measure => simp [intOf]; omega
        · obtain ⟨a', k', c', w', hr, hq⟩ := HQ.out.pushB [92, 92] (by have := HK.out; have := HL.out; have := HI.out; simp; omega)
          have hqb : qa 92 = [92, 92] := rfl
          have HR := hid_of hr
          rw [hqb] at HT
          have HQ2 : Hid (Bs w w1 w' a' k' c' (byts (34 :: (xs.take (i + 1)).flatMap qa))) := by rw [HT.out]; have := byts_more [] ((xs.take i).flatMap qa) [92, 92]; simp only [List.nil_append] at this; rw [← this]; exact hq
          have HK2 : Hid (k' ≤ 4 * (i + 1) + 1) := by show k' ≤ 4 * (i + 1) + 1; have h := HQ.out.step hq; have := HK.out; simp [byts] at h; omega
          clear hr hq hqb HT HQ HK HI
          go_wp2_with (at_builtin; refine wp_app2 rfl (.tmp 33) (.tmp 35) 23 23 rfl _ _ rfl rfl _ w' HR.out ?_)
          go_roundw
          case rel => exact ⟨i + 1, by go_num, _, _, _, rfl, hlt, HQ2, HK2⟩
          case measure => simp [intOf]; omega
      have e1 : (x == 92) = false := by simp; omega
      have e2 : (x == 34) = false := by simp; omega
      by_cases h4 : x < 32 ∨ 126 < x
      · rcases h4 with h4 | h4
        · have hkd : Kept (fun _ => False) wr wr.drew := (Kept.refl _ _).drew
          have HQd := hid_of (HQ.out.same hkd)
          have g1 : ¬ (32 : Int) ≤ x := by omega
          have g1b : decide ((32 : Int) ≤ x) = false := decide_eq_false g1
          go_upto_region 6 with fail
          refine wp_region_held_drew (S := fun _ => True) (by kernel_rfl) trivial (fun hHeld => ?_)
          generalize wr.drew = wd at *
          obtain ⟨a', k', c', w', hr, hq⟩ := HQd.out.pushB [92, 120, hexd (x / 16), hexd (x % 16)] (by have := HK.out; have := HL.out; have := HI.out; simp; omega)
          have hqb : qa x = [92, 120, hexd (x / 16), hexd (x % 16)] := by unfold qa; rw [if_neg h1, if_pos (by omega)]
          have HR := hid_of hr
          rw [hqb] at HT
          have HQ2 : Hid (Bs w w1 w' a' k' c' (byts (34 :: (xs.take (i + 1)).flatMap qa))) := by rw [HT.out]; have := byts_more [] ((xs.take i).flatMap qa) [92, 120, hexd (x / 16), hexd (x % 16)]; simp only [List.nil_append] at this; rw [← this]; exact hq
          have HK2 : Hid (k' ≤ 4 * (i + 1) + 1) := by show k' ≤ 4 * (i + 1) + 1; have h := HQd.out.step hq; have := HK.out; simp [byts] at h; omega
          have hd1 := fun w => run_digs w (x / 16) (by omega) (by omega)
          have hd2 := fun w => run_digs w (x % 16) (by omega) (by omega)
          have hq16 := quo16 x hc0 hc1
          have hr16 := rem16 x hc0
          clear hr hq hqb HT HQ HK HI HQd hkd h1 h4 e1 e2 g1 g1b
          iterate 7
            refine tkn (v := ?_) 0 rfl ?_ ?_; rotate_left 1
            · intro w hSw; go_simp; try with_reducible rfl
            try simp only [Act.put, tdy]
          refine wpAnyH_ready (rs := [7]) (by kernel_rfl) (by simp) ?_
          refine AllReadyH.cons rfl (fun K hK => ?_) AllReadyH.nil
          go_simp
          refine hK.out _ _ trivial (fun hHeld => ?_)
          clear hK K
          try simp only [Act.put, tdy]
          refine wpAnyH_ready (rs := [8]) (by kernel_rfl) (by simp) ?_
          refine AllReadyH.cons rfl (fun K hK => ?_) AllReadyH.nil
          refine step_app rfl (.tmp 17) (.tmp 24) 23 23 rfl _ _ rfl rfl (.slice a' k' c') w' HR.out ?_
          refine hK.out _ _ trivial (fun hHeld => ?_)
          clear hK K
          try simp only [Act.put, tdy]
          refine wpAnyH_ready (rs := [9]) (by kernel_rfl) (by simp) ?_
          refine AllReadyH.cons rfl (fun K hK => ?_) AllReadyH.nil
          go_simp
          refine hK.out _ _ trivial (fun hHeld => ?_)
          clear hK K
          try simp only [Act.put, tdy]
          refine wpAnyH_done (by kernel_rfl) ?_ _
          go_wp2
          go_roundw
          case rel => exact ⟨i + 1, by go_num, _, _, _, rfl, hlt, HQ2, HK2⟩
          case measure => simp [intOf]; omega
        · have hkd : Kept (fun _ => False) wr wr.drew := (Kept.refl _ _).drew
          have HQd := hid_of (HQ.out.same hkd)
          have g1 : (32 : Int) ≤ x := by omega
          have g2 : ¬ x ≤ (126 : Int) := by omega
          have g2b : decide (x ≤ (126 : Int)) = false := decide_eq_false g2
          go_upto_region 6 with fail
          refine wp_region_held_drew (S := fun _ => True) (by kernel_rfl) trivial (fun hHeld => ?_)
          generalize wr.drew = wd at *
          obtain ⟨a', k', c', w', hr, hq⟩ := HQd.out.pushB [92, 120, hexd (x / 16), hexd (x % 16)] (by have := HK.out; have := HL.out; have := HI.out; simp; omega)
          have hqb : qa x = [92, 120, hexd (x / 16), hexd (x % 16)] := by unfold qa; rw [if_neg h1, if_pos (by omega)]
          have HR := hid_of hr
          rw [hqb] at HT
          have HQ2 : Hid (Bs w w1 w' a' k' c' (byts (34 :: (xs.take (i + 1)).flatMap qa))) := by rw [HT.out]; have := byts_more [] ((xs.take i).flatMap qa) [92, 120, hexd (x / 16), hexd (x % 16)]; simp only [List.nil_append] at this; rw [← this]; exact hq
          have HK2 : Hid (k' ≤ 4 * (i + 1) + 1) := by show k' ≤ 4 * (i + 1) + 1; have h := HQd.out.step hq; have := HK.out; simp [byts] at h; omega
          have hd1 := fun w => run_digs w (x / 16) (by omega) (by omega)
          have hd2 := fun w => run_digs w (x % 16) (by omega) (by omega)
          have hq16 := quo16 x hc0 hc1
          have hr16 := rem16 x hc0
          clear hr hq hqb HT HQ HK HI HQd hkd h1 h4 e1 e2 g1 g2 g2b
          iterate 7
            refine tkn (v := ?_) 0 rfl ?_ ?_; rotate_left 1
            · intro w hSw; go_simp; try with_reducible rfl
            try simp only [Act.put, tdy]
          refine wpAnyH_ready (rs := [7]) (by kernel_rfl) (by simp) ?_
          refine AllReadyH.cons rfl (fun K hK => ?_) AllReadyH.nil
          go_simp
          refine hK.out _ _ trivial (fun hHeld => ?_)
          clear hK K
          try simp only [Act.put, tdy]
          refine wpAnyH_ready (rs := [8]) (by kernel_rfl) (by simp) ?_
          refine AllReadyH.cons rfl (fun K hK => ?_) AllReadyH.nil
          refine step_app rfl (.tmp 17) (.tmp 24) 23 23 rfl _ _ rfl rfl (.slice a' k' c') w' HR.out ?_
          refine hK.out _ _ trivial (fun hHeld => ?_)
          clear hK K
          try simp only [Act.put, tdy]
          refine wpAnyH_ready (rs := [9]) (by kernel_rfl) (by simp) ?_
          refine AllReadyH.cons rfl (fun K hK => ?_) AllReadyH.nil
          go_simp
          refine hK.out _ _ trivial (fun hHeld => ?_)
          clear hK K
          try simp only [Act.put, tdy]
          refine wpAnyH_done (by kernel_rfl) ?_ _
          go_wp2
          go_roundw
          case rel => exact ⟨i + 1, by go_num, _, _, _, rfl, hlt, HQ2, HK2⟩
          case measure => simp [intOf]; omega
      have e5 : (32 : Int) ≤ x := by omega
      have e6 : x ≤ (126 : Int) := by omega
      obtain ⟨a', k', c', w', hr, hq⟩ := HQ.out.pushB [x] (by have := HK.out; have := HL.out; have := HI.out; simp; omega)
      have hqb : qa x = [x] := by unfold qa; rw [if_neg h1, if_neg h4]
      have HR := hid_of hr
      rw [hqb] at HT
      have HQ2 : Hid (Bs w w1 w' a' k' c' (byts (34 :: (xs.take (i + 1)).flatMap qa))) := by rw [HT.out]; have := byts_more [] ((xs.take i).flatMap qa) [x]; simp only [List.nil_append] at this; rw [← this]; exact hq
      have HK2 : Hid (k' ≤ 4 * (i + 1) + 1) := by show k' ≤ 4 * (i + 1) + 1; have h := HQ.out.step hq; have := HK.out; simp [byts] at h; omega
      clear hr hq hqb HT HQ HK HI
      go_wp2_with (at_builtin; refine wp_app2 rfl (.tmp 44) (.tmp 46) 23 23 rfl _ _ rfl rfl _ w' HR.out ?_)
      go_roundw
      case rel => exact ⟨i + 1, by go_num, _, _, _, rfl, hlt, HQ2, HK2⟩
      case measure => simp [intOf]; omega
    · have hnlt : ¬ (i : Int) < (n : Int) := by omega
      obtain ⟨a', k', c', w', hr, hq⟩ := HQ.out.pushB [34] (by have := HK.out; have := HL.out; have := HI.out; simp; omega)
      have HR := hid_of hr
      have hq2 : Bs w w1 w' a' k' c' (byts (quoteA xs)) := by
        have := HI.out; have := HN.out
        rw [List.take_of_length_le (by omega)] at hq
        have e : byts (34 :: xs.flatMap qa) ++ byts [34] = byts (quoteA xs) := by simp [byts, quoteA]
        rw [e] at hq
        exact hq
      have hcv := conv_str w' (.slice a' k' c') (quoteA xs) (isB_own hq2.own)
      have HKK := hid_of hq2.kept
      clear hr hq hq2
      go_wp2_with (at_builtin; refine wp_app2 rfl (.tmp 48) (.tmp 49) 23 23 rfl _ _ rfl rfl _ w' HR.out ?_)
      go_ret
      exact ⟨rfl, HKK.out⟩
end Go.Proofs.YtgoabnehdmdikaaGreatDoor

/-
  The walk of SumOf.
-/
import Derived.Test.YtdbogfjkaebeoaaDoorMine
namespace Go.Proofs.YtdbogfjkaebeoaaDoor
open Go.RowKit
set_option linter.unusedVariables false
set_option linter.unusedSimpArgs false

theorem str123 {w : World} {b : Nat} {t : TypeId} {f : Nat × Nat} (h : w.heap[b]? = some (.cells #[.int .u8 1, .int .u8 2, .int .u8 3] t f)) : (convert 25 9 (.slice (some ⟨b, 0, none⟩) 3 3)).run Tryd.prog w = .ok (.string ⟨#[1, 2, 3]⟩) w :=
  bin_str (xs := [1, 2, 3]) (bin_new (xs := [1, 2, 3]) h rfl (Nat.le_refl _))
theorem Mine.skip {w : World} {gm : Nat} {ls : List (List Int)} {bf : Nat → Nat} {k : Nat} (h : Mine w gm ls bf k) (x : Value) : Mine (w.setCell ⟨gm, k, none⟩ x) gm ls bf k := by
  obtain ⟨⟨cur, h0, h1, h2⟩, h3, h4, h5⟩ := h
  have hks := kept_set w ⟨gm, k, none⟩ x
  refine ⟨⟨_, set_block _ _ _ _ _ _ h0 _, by simp [h1], fun i hi => ?_⟩, fun i hi => (h3 i hi).kept hks (by show ¬ (bf i = gm); have := h5 i hi; omega), h4, h5⟩
  rw [Array.getElem?_setIfInBounds, if_neg (by omega)]
  exact h2 i hi
/-- While they are looked at: those from j on lie whole. -/
structure Rest (w : World) (gm : Nat) (ls : List (List Int)) (bf : Nat → Nat) (j : Nat) : Prop where
  row : ∀ i, i < ls.length + 3 → w.cell? ⟨gm, i, none⟩ = some (mineV ls bf i)
  at_ : ∀ i, j ≤ i → i < ls.length + 3 → MineAt w ls bf i
theorem Mine.rest {w : World} {gm : Nat} {ls : List (List Int)} {bf : Nat → Nat} (h : Mine w gm ls bf (ls.length + 3)) : Rest w gm ls bf 0 := ⟨fun i hi => h.cell hi, fun i _ hi => h.at_ i hi⟩
theorem Rest.kept {S : Nat → Prop} {w w' : World} {gm : Nat} {ls : List (List Int)} {bf : Nat → Nat} {j j' : Nat} (h : Rest w gm ls bf j) (hj : j ≤ j') (hk : Kept S w w') (hg : ¬ S gm) (hs : ∀ i, j' ≤ i → i < ls.length + 3 → ¬ S (bf i)) : Rest w' gm ls bf j' :=
  ⟨fun i hi => hk.cell (h.row i hi) hg, fun i hi hi' => (h.at_ i (by omega) hi').kept hk (hs i hi hi')⟩

set_option maxRecDepth 100000 in
set_option maxHeartbeats 1000000 in
theorem sumOf_far (pv : Value) (ls : List (List Int)) (w : World) (hP : PIn w pv ls) (hL : Laid w) (hll : ls.length < 4611686018427387904) (hlen : ∀ l ∈ ls, l.length ≤ 140737488355328) (hT : 2147483647 < ls.flatten.length) :
    Calls Tryd.prog 3 #[pv] w fun e w' => e = .returned (.bool true) ∧ Kept (fun _ => False) w w' := by
  have HKN := hid_of (known_any w hL)
  have HBY : Hid (∀ W, Kept (fun _ => False) w W → Calls Tryd.prog 10 #[pv] W fun e w' => e = .returned (.bool true) ∧ w' = W) := fun W hW => by
    have := beyond_any pv ls W (hP.kept hW (fun _ _ f => f)) hll hlen
    rw [decide_eq_true hT] at this
    exact this
  clear hP hL hlen hT
  go_enter Tryd.func3, Tryd.ntmps3
  go_wp2_with fail
  refine HKN.out.mono ?_
  rintro e w1 ⟨rfl, hk1⟩
  have HK1 := hid_of hk1
  clear hk1 HKN
  go_wp2_with fail
  refine (HBY.out _ HK1.out).mono ?_
  rintro e w' ⟨rfl, rfl⟩
  clear HBY
  go_wp2
  go_ret
  exact ⟨rfl, HK1.out⟩

set_option maxRecDepth 100000 in
set_option maxHeartbeats 20000000 in
theorem sumOf_near (ao : Option Addr) (n c : Nat) (ls : List (List Int)) (w : World) (hP : PIn w (.slice ao n c) ls) (hN : ls.length = n) (hr : ∀ l ∈ ls, ∀ x ∈ l, 0 ≤ x ∧ x < 256) (hL : Laid w) (hn24 : n * 24 ≤ 140737488351232) (hlen : ∀ l ∈ ls, l.length ≤ 140737488351232) (hT : ls.flatten.length ≤ 2147483647) :
    Calls Tryd.prog 3 #[.slice ao n c] w fun e w' => e = .returned (.bool true) ∧ Kept (fun _ => False) w w' := by
  have HKN := hid_of (known_any w hL)
  have HBY : Hid (∀ W, Kept (fun _ => False) w W → Calls Tryd.prog 10 #[.slice ao n c] W fun e w' => e = .returned (.bool false) ∧ w' = W) := fun W hW => by
    have := beyond_any (.slice ao n c) ls W (hP.kept hW (fun _ _ f => f)) (by omega) (fun l hl => by have := hlen l hl; omega)
    rw [decide_eq_false (by omega)] at this
    exact this
  obtain ⟨L, hLf⟩ : ∃ L, ls.flatten.length = L := ⟨_, rfl⟩
  have HJO : Hid (∀ W, Kept (fun _ => False) w W → Calls Tryd.prog 16 #[.slice ao n c] W fun e w' => ∃ ao c, e = .returned (.slice ao L c) ∧ BIn w' (.slice ao L c) ls.flatten ∧ Kept (fun _ => False) W w') := fun W hW => by
    rw [← hLf]
    exact joined_any (.slice ao n c) ls W (hP.kept hW (fun _ _ f => f)) (by omega) hT
  have HP : Hid (∀ i, i < n → ∃ b o u, ao = some ⟨b, o, none⟩ ∧ w.cell? ⟨b, o + i, none⟩ = some u ∧ BIn w u (ls.getD i [])) := by
    obtain ⟨ao', c', h, hp⟩ := hP
    cases h
    intro i hi
    exact hp i (by omega)
  have HSM : Hid (∀ i, i < n → (ls.getD i []).length ≤ 2147483647) := fun i hi => by
    have h1 := tot_step ls i (by omega)
    have h2 := tot_le ls (i + 1)
    omega
  have HRR : Hid (∀ x ∈ ls.flatten, 0 ≤ x ∧ x < 256) := fun x hx => by
    obtain ⟨l, hl, h⟩ := List.mem_flatten.1 hx
    exact hr l hl x h
  have HR := hid_of hr
  have HT := hid_of hT
  have HL := hid_of hL
  have HN := hid_of hN
  clear hP hr hL hlen hT hN hLf
  go_enter Tryd.func3, Tryd.ntmps3
  go_wp2_with fail
  refine HKN.out.mono ?_
  rintro e w1 ⟨rfl, hk1⟩
  have HK1 := hid_of hk1
  clear hk1 HKN
  go_wp2_with fail
  refine (HBY.out _ HK1.out).mono ?_
  rintro e w' ⟨rfl, rfl⟩
  clear HBY
  have mk := make_parts w' (n + 3) (by omega)
  rw [show ((n + 3 : Nat) : Int) = (n : Int) + 3 from by omega] at mk
  go_wp2
  clear mk
  have HM0 : Hid (∃ bf, Mine (w'.alloc (.cells (zsl (n + 3)) 25)) w'.heap.size ls bf 0) := ⟨fun _ => 0, ⟨_, alloc_new _ _ rfl, by rw [zsl_size, HN.out], fun i hi => absurd hi (by omega)⟩, fun i hi => absurd hi (by omega), fun i j _ hj => absurd hj (by omega), fun i hi => absurd hi (by omega)⟩
  have HKM : Hid (Kept (fun _ => False) w (w'.alloc (.cells (zsl (n + 3)) 25))) := HK1.out.alloc _
  have HGM : Hid (w.heap.size ≤ w'.heap.size) := HK1.out.size
  have hgm := HGM.out
  clear HK1
  generalize w'.alloc (.cells (zsl (n + 3)) 25) = wm at *
  generalize w'.heap.size = gm at *
  go_loopw [4] (fun i wr => ∃ (k : Nat) (bf : Nat → Nat), k ≤ n + 3 ∧ i = .int .i64 k ∧ Mine wr gm ls bf k ∧ Kept (fun _ => False) w wr) (fun i _ => n + 3 - (intOf i).toNat)
  case atStart =>
    obtain ⟨bf, h⟩ := HM0.out
    exact ⟨0, bf, by omega, rfl, h, HKM.out⟩
  case round =>
    clear HM0 HKM
    obtain ⟨k, bf, hk, rfl, hM, hK⟩ := hrel
    by_cases hlt : k < n + 3
    · have hkI : (k : Int) < (n : Int) + 3 := by omega
      have hkl : k < ls.length + 3 := by rw [HN.out]; exact hlt
      obtain ⟨⟨uo, huo⟩, hfo⟩ := hM.there (i := k) hkl
      have HA : Hid (Kept (fun _ => False) wr (wr.alloc (.cells #[.int .u8 1, .int .u8 2, .int .u8 3] 5))) := (Kept.refl _ wr).alloc _
      have hc1 := HA.out.cell huo (fun f => f)
      have hf1 := frz HA.out huo hfo
      have hbN : ∀ i, i < k → bf i < wr.heap.size := fun i hi => (hM.at_ i hi).lt
      have hgr : gm < wr.heap.size := by
        obtain ⟨⟨cur, h0, _⟩, _⟩ := hM
        exact heap_lt h0
      have hMA := hM.kept HA.out (fun f => f) (fun _ _ f => f)
      have hB1 : (wr.alloc (.cells #[.int .u8 1, .int .u8 2, .int .u8 3] 5)).heap[wr.heap.size]? = some (.cells #[.int .u8 1, .int .u8 2, .int .u8 3] 5 (0, 0)) := alloc_new _ _ rfl
      have hKA := hK.alloc (.cells #[.int .u8 1, .int .u8 2, .int .u8 3] 5)
      have hsA : (wr.alloc (.cells #[.int .u8 1, .int .u8 2, .int .u8 3] 5)).heap.size = wr.heap.size + 1 := by simp
      have HGR := hid_of hgr
      by_cases hkn : k < n
      · have hknI : (k : Int) < (n : Int) := by omega
        obtain ⟨b, o, u, rfl, hu, hB⟩ := HP.out k hkn
        have HMS := hid_of (hMA.skip (.slice (some ⟨wr.heap.size, 0, none⟩) 3 3))
        have HKS : Hid (Kept (fun _ => False) w ((wr.alloc (.cells #[.int .u8 1, .int .u8 2, .int .u8 3] 5)).setCell ⟨gm, k, none⟩ (.slice (some ⟨wr.heap.size, 0, none⟩) 3 3))) := hKA.setCell (.inl hgm) _
        have hu2 := HKS.out.cell hu (fun f => f)
        have hB2 := hB.kept HKS.out (fun _ _ f => f)
        have hle := HSM.out k hkn
        have HLE := hid_of (lend_any u (ls.getD k []) _ hB2 (by omega))
        have HGE : Hid (((wr.alloc (.cells #[.int .u8 1, .int .u8 2, .int .u8 3] 5)).setCell ⟨gm, k, none⟩ (.slice (some ⟨wr.heap.size, 0, none⟩) 3 3)).heap.size = wr.heap.size + 1) := by show _ = _; simp [World.setCell]
        have HBN := hid_of hbN
        clear hM hK hMA hKA hB hB2 huo hfo hbN hB1 hsA hu hgr
        go_wp2_with fail
        generalize (wr.alloc (.cells #[.int .u8 1, .int .u8 2, .int .u8 3] 5)).setCell ⟨gm, k, none⟩ (.slice (some ⟨wr.heap.size, 0, none⟩) 3 3) = ws at *
        refine HLE.out.mono ?_
        rintro e w3 ⟨rfl, hl3, hk3⟩
        have hM3 := HMS.out.kept hk3 (fun f => f) (fun _ _ f => f)
        obtain ⟨⟨u3', hu3⟩, hf3⟩ := hM3.there (i := k) hkl
        have HPUT := hid_of (hM3.put (b := ws.heap.size) hkl (by rw [HGE.out]; have := HGR.out; omega) (fun i hi => by have := HBN.out i hi; rw [HGE.out]; omega) (by
          unfold MineAt
          rw [if_pos (by rw [HN.out]; exact hkn)]
          simpa using hl3))
        have HV : Hid (mineV ls (fun i => if i = k then ws.heap.size else bf i) k = .slice (some ⟨ws.heap.size, 0, none⟩) (ls.getD k []).length ((ls.getD k []).length + 67)) := by
          show _ = _
          unfold mineV
          rw [if_pos (by rw [HN.out]; exact hkn)]
          simp
        rw [HV.out] at HPUT
        have HK3 : Hid (Kept (fun _ => False) w (w3.setCell ⟨gm, k, none⟩ (.slice (some ⟨ws.heap.size, 0, none⟩) (ls.getD k []).length ((ls.getD k []).length + 67)))) := (HKS.out.trans hk3).setCell (.inl hgm) _
        clear hM3 hl3 hk3 HLE HMS HKS HV hu2 hc1 hf1
        go_wp2
        go_roundw
        case rel => exact ⟨k + 1, _, by omega, by go_num, HPUT.out, HK3.out⟩
        case measure => simp [intOf]; omega
      · have hknI : ¬ (k : Int) < (n : Int) := by omega
        have HPUT := hid_of (hMA.put (b := wr.heap.size) hkl hgr hbN (by
          unfold MineAt
          rw [if_neg (by rw [HN.out]; exact hkn)]
          simpa using hB1))
        have HV : Hid (mineV ls (fun i => if i = k then wr.heap.size else bf i) k = .slice (some ⟨wr.heap.size, 0, none⟩) 3 3) := by
          show _ = _
          unfold mineV
          rw [if_neg (by rw [HN.out]; exact hkn)]
          simp
        rw [HV.out] at HPUT
        have HK3 : Hid (Kept (fun _ => False) w ((wr.alloc (.cells #[.int .u8 1, .int .u8 2, .int .u8 3] 5)).setCell ⟨gm, k, none⟩ (.slice (some ⟨wr.heap.size, 0, none⟩) 3 3))) := hKA.setCell (.inl hgm) _
        clear hM hK hMA hKA huo hfo hbN hB1 hsA HV hgr
        go_wp2
        go_roundw
        case rel => exact ⟨k + 1, _, by omega, by go_num, HPUT.out, HK3.out⟩
        case measure => simp [intOf]; omega
    · obtain rfl : k = n + 3 := by omega
      have HM := hid_of hM
      have HK := hid_of hK
      clear hM hK
      go_wp2_with fail
      have hpin := HM.out.pin (c := n + 3) (by rw [HN.out]; omega)
      rw [HN.out] at hpin
      refine (of_any _ ls wr hpin HR.out (laid_kept HL.out HK.out (fun f => f)) (by have := HT.out; omega) (by rw [HN.out]; omega)).mono ?_
      rintro e w4 ⟨rfl, hk4⟩
      clear hpin
      have hsl : (sha ls.flatten).length = 32 := by simp [sha, dig]
      have hoC := oneCells .u8 (sha ls.flatten)
      have heq : ∀ W, (binOp .eql 31 (.agg ((sha ls.flatten).map (Value.int .u8)).toArray) (.agg ((sha ls.flatten).map (Value.int .u8)).toArray)).run Tryd.prog W = .ok (.bool true) W := fun W => by
        rw [run_eql32 W 31 (sha ls.flatten) (sha ls.flatten) Tryd.underlying31 hsl hsl]
        simp
      have HGV : Hid (∀ W, Calls Tryd.prog 14 #[.agg ((sha ls.flatten).map (Value.int .u8)).toArray] W fun e w' => e = .returned (.agg ((sha ls.flatten).map (Value.int .u8)).toArray) ∧ Kept (fun _ => False) W w') := fun W => gv_row _ (by simp [hsl]) hoC W
      have HRO : Hid (∀ W bv, BIn W bv ls.flatten → Calls Tryd.prog 15 #[bv] W fun e w' => e = .returned (.agg ((sha ls.flatten).map (Value.int .u8)).toArray) ∧ Kept (fun _ => False) W w') := fun W bv hB => rof_any bv ls.flatten W hB HRR.out (by have := HT.out; omega)
      have hlC : ((sha ls.flatten).map (Value.int .u8)).length = 32 := by rw [List.length_map, hsl]
      have hs28 : (Tryd.prog.info? 28).map (·.size) = some ((sha ls.flatten).map (Value.int .u8)).length := by rw [size28, hlC]
      have HOS : Hid (32 = ((sha ls.flatten).map (Value.int .u8)).length) := hlC.symm
      have HEQ := hid_of heq
      clear heq hsl hlC
      generalize (sha ls.flatten).map (Value.int .u8) = cd at *
      have HD5 : Hid ((w4.alloc (.cells cd.toArray 28)).heap[w4.heap.size]? = some (.cells cd.toArray 28 (0, 0))) := alloc_new _ _ rfl
      have hKa : Kept (fun _ => False) wr (w4.alloc (.cells cd.toArray 28)) := hk4.alloc _
      have HR5 : Hid (Rest (w4.alloc (.cells cd.toArray 28)) gm ls bf 0) := by
        have h := HM.out
        rw [← HN.out] at h
        exact h.rest.kept (Nat.le_refl _) hKa (fun f => f) (fun _ _ _ f => f)
      have HUP : Hid (∀ i j, i < j → j < n + 3 → bf i < bf j) := fun i j h1 h2 => HM.out.up i j h1 h2
      have HLO : Hid (∀ i, i < n + 3 → gm < bf i ∧ bf i < w4.heap.size) := fun i hi => ⟨HM.out.lo i hi, by have := (HM.out.at_ i hi).lt; have := hk4.size; omega⟩
      have HK5 := hid_of (HK.out.trans hKa)
      have HGD : Hid (gm < w4.heap.size) := by
        obtain ⟨⟨cur, h0, _⟩, _⟩ := HM.out
        have := heap_lt h0
        have := hk4.size
        show gm < w4.heap.size
        omega
      clear hk4 hKa HM HK
      generalize Value.int IntKind.i64 ((n + 3 : Nat) : Int) = d4
      go_wp2_with (first | (refine wpList_store_row rfl 28 _ _ rfl w4.heap.size cd.toArray rfl rfl 28 _ (alloc_new _ _ rfl) hs28 HOS.out hoC ?_; rw [setRow_new _ _ _ _ rfl]))
      generalize w4.alloc (.cells cd.toArray 28) = w5 at *
      generalize w4.heap.size = gd at *
      go_loopw [6] (fun i wr => ∃ j : Nat, j ≤ n + 3 ∧ i = .int .i64 j ∧ Rest wr gm ls bf j ∧ wr.heap[gd]? = some (.cells cd.toArray 28 (0, 0)) ∧ Kept (fun _ => False) w wr) (fun i _ => n + 3 - (intOf i).toNat)
      case atStart => exact ⟨0, by omega, rfl, HR5.out, HD5.out, HK5.out⟩
      case round =>
        clear HR5 HD5 HK5
        obtain ⟨j, hj, rfl, hRe, hD, hK⟩ := hrel
        by_cases hjt : j < n + 3
        · have hjI : (j : Int) < (n : Int) + 3 := by omega
          have hjl : j < ls.length + 3 := by rw [HN.out]; exact hjt
          have HC := hid_of (hRe.row j hjl)
          have HAT := hid_of (hRe.at_ j (Nat.le_refl _) hjl)
          have HRE := hid_of hRe
          have HDD := hid_of hD
          have HKK := hid_of hK
          clear hRe hD hK
          by_cases hjn : j < n
          · have hjnI : (j : Int) < (n : Int) := by omega
            have hjnD : decide ((n : Int) ≤ (j : Int)) = false := by rw [decide_eq_false_iff_not]; omega
            have hjn3 : ((n : Int) ≤ (j : Int)) ↔ False := ⟨fun h => by omega, False.elim⟩
            obtain ⟨b, o, u, rfl, hu, hB⟩ := HP.out j hjn
            have HCP := hid_of (HKK.out.cell hu (fun f => f))
            have HBB := hid_of (hB.kept HKK.out (fun _ _ f => f))
            have HLT : Hid (Lent wr (bf j) (ls.getD j []) 67) := by
              have h := HAT.out
              unfold MineAt at h
              rw [if_pos (by rw [HN.out]; exact hjn)] at h
              exact h
            have HVV : Hid (mineV ls bf j = .slice (some ⟨bf j, 0, none⟩) (ls.getD j []).length ((ls.getD j []).length + 67)) := by
              show _ = _
              unfold mineV
              rw [if_pos (by rw [HN.out]; exact hjn)]
            rw [HVV.out] at HC
            have HHE : Hid (∀ W, Kept (fun _ => False) wr W → Calls Tryd.prog 13 #[.slice (some ⟨bf j, 0, none⟩) (ls.getD j []).length ((ls.getD j []).length + 67), u] W fun e w' => e = .returned (.bool true) ∧ Kept (fun k => k = bf j) W w') := fun W hW => held_any (bf j) u (ls.getD j []) W (HLT.out.kept hW (fun f => f)) (HBB.out.kept hW (fun _ _ f => f)) (by have := HSM.out j hjn; omega)
            have hbw : b < w.heap.size := by simpa using World.block_lt_of_cell? w _ hu
            clear hu hB HAT HVV HLT HBB
            generalize (ls.getD j []).length = q at *
            go_wp2
            have HB : Hid (Kept (fun k => k = bf j) wr wr.drew) := (Kept.refl _ wr).drew
            refine wp_region_held_drew (S := fun w' => w'.cell? ⟨gm, j, none⟩ = some (.slice (some ⟨bf j, 0, none⟩) q (q + 67)) ∧ w'.cell? ⟨b, o + j, none⟩ = some u) (by kernel_rfl) ⟨HB.out.cell HC.out (by show ¬ (gm = bf j); have := (HLO.out j hjt).1; omega), HB.out.cell HCP.out (by show ¬ (b = bf j); have := (HLO.out j hjt).1; omega)⟩ (fun hHeld => ?_)
            refine wpAnyH_take (i := 0) (v := ?_) rfl (by kernel_rfl) (by kernel_rfl) (by kernel_rfl) (fun _ _ _ h => h) (Or.inl ⟨by rfl, ?_⟩) (by assumption) ?_
            rotate_left 1
            · intro w hSw
              go_simp
              try with_reducible rfl
            try simp only [Act.put, List.getElem_toArray, List.getElem_cons_zero, List.getElem_cons_succ, List.setIfInBounds_toArray, List.set_cons_zero, List.set_cons_succ]
            refine wpAnyH_take (i := 1) (v := ?_) rfl (by kernel_rfl) (by kernel_rfl) (by kernel_rfl) (fun _ _ _ h => h) (Or.inl ⟨by rfl, ?_⟩) (by assumption) ?_
            rotate_left 1
            · intro w hSw
              go_simp
              try with_reducible rfl
            try simp only [Act.put, List.getElem_toArray, List.getElem_cons_zero, List.getElem_cons_succ, List.setIfInBounds_toArray, List.set_cons_zero, List.set_cons_succ]
            refine wpAnyH_take (i := 2) (v := ?_) rfl (by kernel_rfl) (by kernel_rfl) (by kernel_rfl) (fun _ _ _ h => h) (Or.inl ⟨by rfl, ?_⟩) (by assumption) ?_
            rotate_left 1
            · intro w hSw
              go_simp
              try with_reducible rfl
            try simp only [Act.put, List.getElem_toArray, List.getElem_cons_zero, List.getElem_cons_succ, List.setIfInBounds_toArray, List.set_cons_zero, List.set_cons_succ]
            refine wpAnyH_take (i := 3) (v := ?_) rfl (by kernel_rfl) (by kernel_rfl) (by kernel_rfl) (fun _ _ _ h => h) (Or.inl ⟨by rfl, ?_⟩) (by assumption) ?_
            rotate_left 1
            · intro w hSw
              go_simp
              try with_reducible rfl
            try simp only [Act.put, List.getElem_toArray, List.getElem_cons_zero, List.getElem_cons_succ, List.setIfInBounds_toArray, List.set_cons_zero, List.set_cons_succ]
            refine wpAnyH_take (i := 4) (v := ?_) rfl (by kernel_rfl) (by kernel_rfl) (by kernel_rfl) (fun _ _ _ h => h) (Or.inl ⟨by rfl, ?_⟩) (by assumption) ?_
            rotate_left 1
            · intro w hSw
              go_simp
              try with_reducible rfl
            try simp only [Act.put, List.getElem_toArray, List.getElem_cons_zero, List.getElem_cons_succ, List.setIfInBounds_toArray, List.set_cons_zero, List.set_cons_succ]
            refine wpAnyH_take (i := 5) (v := ?_) rfl (by kernel_rfl) (by kernel_rfl) (by kernel_rfl) (fun _ _ _ h => h) (Or.inl ⟨by rfl, ?_⟩) (by assumption) ?_
            rotate_left 1
            · intro w hSw
              go_simp
              try with_reducible rfl
            try simp only [Act.put, List.getElem_toArray, List.getElem_cons_zero, List.getElem_cons_succ, List.setIfInBounds_toArray, List.set_cons_zero, List.set_cons_succ]
            refine wpAnyH_take (i := 6) (v := ?_) rfl (by kernel_rfl) (by kernel_rfl) (by kernel_rfl) (fun _ _ _ h => h) (Or.inl ⟨by rfl, ?_⟩) (by assumption) ?_
            rotate_left 1
            · intro w hSw
              go_simp
              try with_reducible rfl
            try simp only [Act.put, List.getElem_toArray, List.getElem_cons_zero, List.getElem_cons_succ, List.setIfInBounds_toArray, List.set_cons_zero, List.set_cons_succ]
            refine wpAnyH_take (i := 7) (v := ?_) rfl (by kernel_rfl) (by kernel_rfl) (by kernel_rfl) (fun _ _ _ h => h) (Or.inl ⟨by rfl, ?_⟩) (by assumption) ?_
            rotate_left 1
            · intro w hSw
              go_simp
              try with_reducible rfl
            try simp only [Act.put, List.getElem_toArray, List.getElem_cons_zero, List.getElem_cons_succ, List.setIfInBounds_toArray, List.set_cons_zero, List.set_cons_succ]
            refine wpAnyH_take (i := 8) (v := ?_) rfl (by kernel_rfl) (by kernel_rfl) (by kernel_rfl) (fun _ _ _ h => h) (Or.inl ⟨by rfl, ?_⟩) (by assumption) ?_
            rotate_left 1
            · intro w hSw
              obtain ⟨e1, e2⟩ := hSw
              go_simp
              try with_reducible rfl
            try simp only [Act.put, List.getElem_toArray, List.getElem_cons_zero, List.getElem_cons_succ, List.setIfInBounds_toArray, List.set_cons_zero, List.set_cons_succ]
            refine wpAnyH_take (i := 9) (v := ?_) rfl (by kernel_rfl) (by kernel_rfl) (by kernel_rfl) (fun _ _ _ h => h) (Or.inl ⟨by rfl, ?_⟩) (by assumption) ?_
            rotate_left 1
            · intro w hSw
              go_simp
              try with_reducible rfl
            try simp only [Act.put, List.getElem_toArray, List.getElem_cons_zero, List.getElem_cons_succ, List.setIfInBounds_toArray, List.set_cons_zero, List.set_cons_succ]
            refine wpAnyH_take (i := 10) (v := ?_) rfl (by kernel_rfl) (by kernel_rfl) (by kernel_rfl) (fun _ _ _ h => h) (Or.inl ⟨by rfl, ?_⟩) (by assumption) ?_
            rotate_left 1
            · intro w hSw
              go_simp
              try with_reducible rfl
            try simp only [Act.put, List.getElem_toArray, List.getElem_cons_zero, List.getElem_cons_succ, List.setIfInBounds_toArray, List.set_cons_zero, List.set_cons_succ]
            refine wpAnyH_take (i := 11) (v := ?_) rfl (by kernel_rfl) (by kernel_rfl) (by kernel_rfl) (fun _ _ _ h => h) (Or.inl ⟨by rfl, ?_⟩) (by assumption) ?_
            rotate_left 1
            · intro w hSw
              go_simp
              try with_reducible rfl
            try simp only [Act.put, List.getElem_toArray, List.getElem_cons_zero, List.getElem_cons_succ, List.setIfInBounds_toArray, List.set_cons_zero, List.set_cons_succ]
            refine wpAnyH_take (i := 12) (v := ?_) rfl (by kernel_rfl) (by kernel_rfl) (by kernel_rfl) (fun _ _ _ h => h) (Or.inl ⟨by rfl, ?_⟩) (by assumption) ?_
            rotate_left 1
            · intro w hSw
              obtain ⟨e1, e2⟩ := hSw
              go_simp
              try with_reducible rfl
            try simp only [Act.put, List.getElem_toArray, List.getElem_cons_zero, List.getElem_cons_succ, List.setIfInBounds_toArray, List.set_cons_zero, List.set_cons_succ]
            refine wpAnyH_ready (rs := [13]) (by kernel_rfl) (by simp) ?_
            refine AllReadyH.cons rfl (fun K hK => ?_) AllReadyH.nil
            go_simp
            refine (HHE.out _ ((Kept.refl _ wr).drew)).mono ?_
            rintro e w' ⟨rfl, hk'⟩
            replace HB := hid_of (HB.out.trans hk')
            clear hk'
            refine hK.out _ _ ⟨HB.out.cell HC.out (by show ¬ (gm = bf j); have := (HLO.out j hjt).1; omega), HB.out.cell HCP.out (by show ¬ (b = bf j); have := (HLO.out j hjt).1; omega)⟩ (fun hHeld => ?_)
            clear hK K
            try simp only [Act.put, List.getElem_toArray, List.getElem_cons_zero, List.getElem_cons_succ, List.setIfInBounds_toArray, List.set_cons_zero, List.set_cons_succ]
            refine wpAnyH_take (i := 14) (v := ?_) rfl (by kernel_rfl) (by kernel_rfl) (by kernel_rfl) (fun _ _ _ h => h) (Or.inl ⟨by rfl, ?_⟩) (by assumption) ?_
            rotate_left 1
            · intro w hSw
              go_simp
              try with_reducible rfl
            try simp only [Act.put, List.getElem_toArray, List.getElem_cons_zero, List.getElem_cons_succ, List.setIfInBounds_toArray, List.set_cons_zero, List.set_cons_succ]
            refine wpAnyH_take (i := 15) (v := ?_) rfl (by kernel_rfl) (by kernel_rfl) (by kernel_rfl) (fun _ _ _ h => h) (Or.inl ⟨by rfl, ?_⟩) (by assumption) ?_
            rotate_left 1
            · intro w hSw
              go_simp
              try with_reducible rfl
            try simp only [Act.put, List.getElem_toArray, List.getElem_cons_zero, List.getElem_cons_succ, List.setIfInBounds_toArray, List.set_cons_zero, List.set_cons_succ]
            refine wpAnyH_take (i := 16) (v := ?_) rfl (by kernel_rfl) (by kernel_rfl) (by kernel_rfl) (fun _ _ _ h => h) (Or.inl ⟨by rfl, ?_⟩) (by assumption) ?_
            rotate_left 1
            · intro w hSw
              go_simp
              try with_reducible rfl
            try simp only [Act.put, List.getElem_toArray, List.getElem_cons_zero, List.getElem_cons_succ, List.setIfInBounds_toArray, List.set_cons_zero, List.set_cons_succ]
            refine wpAnyH_take (i := 17) (v := ?_) rfl (by kernel_rfl) (by kernel_rfl) (by kernel_rfl) (fun _ _ _ h => h) (Or.inl ⟨by rfl, ?_⟩) (by assumption) ?_
            rotate_left 1
            · intro w hSw
              go_simp
              try with_reducible rfl
            try simp only [Act.put, List.getElem_toArray, List.getElem_cons_zero, List.getElem_cons_succ, List.setIfInBounds_toArray, List.set_cons_zero, List.set_cons_succ]
            refine wpAnyH_take (i := 18) (v := ?_) rfl (by kernel_rfl) (by kernel_rfl) (by kernel_rfl) (fun _ _ _ h => h) (Or.inl ⟨by rfl, ?_⟩) (by assumption) ?_
            rotate_left 1
            · intro w hSw
              go_simp
              try with_reducible rfl
            try simp only [Act.put, List.getElem_toArray, List.getElem_cons_zero, List.getElem_cons_succ, List.setIfInBounds_toArray, List.set_cons_zero, List.set_cons_succ]
            refine wpAnyH_take (i := 19) (v := ?_) rfl (by kernel_rfl) (by kernel_rfl) (by kernel_rfl) (fun _ _ _ h => h) (Or.inl ⟨by rfl, ?_⟩) (by assumption) ?_
            rotate_left 1
            · intro w hSw
              go_simp
              try with_reducible rfl
            try simp only [Act.put, List.getElem_toArray, List.getElem_cons_zero, List.getElem_cons_succ, List.setIfInBounds_toArray, List.set_cons_zero, List.set_cons_succ]
            refine wpAnyH_take (i := 20) (v := ?_) rfl (by kernel_rfl) (by kernel_rfl) (by kernel_rfl) (fun _ _ _ h => h) (Or.inl ⟨by rfl, ?_⟩) (by assumption) ?_
            rotate_left 1
            · intro w hSw
              go_simp
              try with_reducible rfl
            try simp only [Act.put, List.getElem_toArray, List.getElem_cons_zero, List.getElem_cons_succ, List.setIfInBounds_toArray, List.set_cons_zero, List.set_cons_succ]
            refine wpAnyH_take (i := 21) (v := ?_) rfl (by kernel_rfl) (by kernel_rfl) (by kernel_rfl) (fun _ _ _ h => h) (Or.inl ⟨by rfl, ?_⟩) (by assumption) ?_
            rotate_left 1
            · intro w hSw
              go_simp
              try with_reducible rfl
            try simp only [Act.put, List.getElem_toArray, List.getElem_cons_zero, List.getElem_cons_succ, List.setIfInBounds_toArray, List.set_cons_zero, List.set_cons_succ]
            refine wpAnyH_take (i := 22) (v := undef) rfl (by kernel_rfl) (by kernel_rfl) (by kernel_rfl) (fun _ _ _ h => h) (Or.inr ⟨by rfl, rfl⟩) (by assumption) ?_
            try simp only [Act.put, List.getElem_toArray, List.getElem_cons_zero, List.getElem_cons_succ, List.setIfInBounds_toArray, List.set_cons_zero, List.set_cons_succ]
            refine wpAnyH_take (i := 23) (v := undef) rfl (by kernel_rfl) (by kernel_rfl) (by kernel_rfl) (fun _ _ _ h => h) (Or.inr ⟨by rfl, rfl⟩) (by assumption) ?_
            try simp only [Act.put, List.getElem_toArray, List.getElem_cons_zero, List.getElem_cons_succ, List.setIfInBounds_toArray, List.set_cons_zero, List.set_cons_succ]
            refine wpAnyH_take (i := 24) (v := undef) rfl (by kernel_rfl) (by kernel_rfl) (by kernel_rfl) (fun _ _ _ h => h) (Or.inr ⟨by rfl, rfl⟩) (by assumption) ?_
            try simp only [Act.put, List.getElem_toArray, List.getElem_cons_zero, List.getElem_cons_succ, List.setIfInBounds_toArray, List.set_cons_zero, List.set_cons_succ]
            refine wpAnyH_take (i := 25) (v := undef) rfl (by kernel_rfl) (by kernel_rfl) (by kernel_rfl) (fun _ _ _ h => h) (Or.inr ⟨by rfl, rfl⟩) (by assumption) ?_
            try simp only [Act.put, List.getElem_toArray, List.getElem_cons_zero, List.getElem_cons_succ, List.setIfInBounds_toArray, List.set_cons_zero, List.set_cons_succ]
            refine wpAnyH_take (i := 26) (v := undef) rfl (by kernel_rfl) (by kernel_rfl) (by kernel_rfl) (fun _ _ _ h => h) (Or.inr ⟨by rfl, rfl⟩) (by assumption) ?_
            try simp only [Act.put, List.getElem_toArray, List.getElem_cons_zero, List.getElem_cons_succ, List.setIfInBounds_toArray, List.set_cons_zero, List.set_cons_succ]
            refine wpAnyH_take (i := 27) (v := undef) rfl (by kernel_rfl) (by kernel_rfl) (by kernel_rfl) (fun _ _ _ h => h) (Or.inr ⟨by rfl, rfl⟩) (by assumption) ?_
            try simp only [Act.put, List.getElem_toArray, List.getElem_cons_zero, List.getElem_cons_succ, List.setIfInBounds_toArray, List.set_cons_zero, List.set_cons_succ]
            refine wpAnyH_take (i := 28) (v := ?_) rfl (by kernel_rfl) (by kernel_rfl) (by kernel_rfl) (fun _ _ _ h => h) (Or.inl ⟨by rfl, ?_⟩) (by assumption) ?_
            rotate_left 1
            · intro w hSw
              go_simp
              try with_reducible rfl
            try simp only [Act.put, List.getElem_toArray, List.getElem_cons_zero, List.getElem_cons_succ, List.setIfInBounds_toArray, List.set_cons_zero, List.set_cons_succ]
            refine wpAnyH_take (i := 29) (v := ?_) rfl (by kernel_rfl) (by kernel_rfl) (by kernel_rfl) (fun _ _ _ h => h) (Or.inl ⟨by rfl, ?_⟩) (by assumption) ?_
            rotate_left 1
            · intro w hSw
              go_simp
              try with_reducible rfl
            try simp only [Act.put, List.getElem_toArray, List.getElem_cons_zero, List.getElem_cons_succ, List.setIfInBounds_toArray, List.set_cons_zero, List.set_cons_succ]
            refine wpAnyH_done (by kernel_rfl) ?_ _
            have HR6 : Hid (Rest w' gm ls bf (j + 1)) := HRE.out.kept (by omega) HB.out (by show ¬ (gm = bf j); have := (HLO.out j hjt).1; omega) (fun i hi hi' => by show ¬ (bf i = bf j); have := HUP.out j i (by omega) (by rw [HN.out] at hi'; exact hi'); omega)
            have HD6 : Hid (w'.heap[gd]? = some (.cells cd.toArray 28 (0, 0))) := (HB.out.block _ (heap_lt HDD.out) (by show ¬ (gd = bf j); have := (HLO.out j hjt).2; omega)).trans HDD.out
            have HK6 : Hid (Kept (fun _ => False) w w') := HKK.out.step HB.out (fun i hi e => by have := (HLO.out j hjt).1; omega)
            clear HRE HDD HKK HB HC HCP HHE hjnD hjn3
            try clear hHeld
            go_wp2
            go_roundw
            case rel => exact ⟨j + 1, by omega, by go_num, HR6.out, HD6.out, HK6.out⟩
            case measure => simp [intOf]; omega
          · have hd1 : decide ((j : Int) < (n : Int)) = false := by rw [decide_eq_false_iff_not]; omega
            have hd2 : decide ((n : Int) ≤ (j : Int)) = true := by rw [decide_eq_true_iff]; omega
            have hd3 : ((j : Int) < (n : Int)) ↔ False := ⟨fun h => by omega, False.elim⟩
            have hd4 : (n : Int) ≤ (j : Int) := by omega
            have HB1 : Hid (wr.heap[bf j]? = some (.cells #[.int .u8 1, .int .u8 2, .int .u8 3] 5 (0, 0))) := by
              have h := HAT.out
              unfold MineAt at h
              rw [if_neg (by rw [HN.out]; exact hjn)] at h
              exact h
            have HVV : Hid (mineV ls bf j = .slice (some ⟨bf j, 0, none⟩) 3 3) := by
              show _ = _
              unfold mineV
              rw [if_neg (by rw [HN.out]; exact hjn)]
            rw [HVV.out] at HC
            clear HAT HVV
            go_wp2
            refine wp_region_held_drew (S := fun w' => w'.cell? ⟨gm, j, none⟩ = some (.slice (some ⟨bf j, 0, none⟩) 3 3) ∧ w'.heap[bf j]? = some (.cells #[.int .u8 1, .int .u8 2, .int .u8 3] 5 (0, 0))) (by kernel_rfl) ⟨(show wr.drew.cell? _ = _ from HC.out), (show wr.drew.heap[_]? = _ from HB1.out)⟩ (fun hHeld => ?_)
            refine wpAnyH_take (i := 0) (v := ?_) rfl (by kernel_rfl) (by kernel_rfl) (by kernel_rfl) (fun _ _ _ h => h) (Or.inl ⟨by rfl, ?_⟩) (by assumption) ?_
            rotate_left 1
            · intro w hSw
              go_simp
              try with_reducible rfl
            try simp only [Act.put, List.getElem_toArray, List.getElem_cons_zero, List.getElem_cons_succ, List.setIfInBounds_toArray, List.set_cons_zero, List.set_cons_succ]
            refine wpAnyH_take (i := 1) (v := ?_) rfl (by kernel_rfl) (by kernel_rfl) (by kernel_rfl) (fun _ _ _ h => h) (Or.inl ⟨by rfl, ?_⟩) (by assumption) ?_
            rotate_left 1
            · intro w hSw
              go_simp
              try with_reducible rfl
            try simp only [Act.put, List.getElem_toArray, List.getElem_cons_zero, List.getElem_cons_succ, List.setIfInBounds_toArray, List.set_cons_zero, List.set_cons_succ]
            refine wpAnyH_take (i := 2) (v := ?_) rfl (by kernel_rfl) (by kernel_rfl) (by kernel_rfl) (fun _ _ _ h => h) (Or.inl ⟨by rfl, ?_⟩) (by assumption) ?_
            rotate_left 1
            · intro w hSw
              go_simp
              try with_reducible rfl
            try simp only [Act.put, List.getElem_toArray, List.getElem_cons_zero, List.getElem_cons_succ, List.setIfInBounds_toArray, List.set_cons_zero, List.set_cons_succ]
            refine wpAnyH_take (i := 3) (v := ?_) rfl (by kernel_rfl) (by kernel_rfl) (by kernel_rfl) (fun _ _ _ h => h) (Or.inl ⟨by rfl, ?_⟩) (by assumption) ?_
            rotate_left 1
            · intro w hSw
              go_simp
              try with_reducible rfl
            try simp only [Act.put, List.getElem_toArray, List.getElem_cons_zero, List.getElem_cons_succ, List.setIfInBounds_toArray, List.set_cons_zero, List.set_cons_succ]
            refine wpAnyH_take (i := 4) (v := ?_) rfl (by kernel_rfl) (by kernel_rfl) (by kernel_rfl) (fun _ _ _ h => h) (Or.inl ⟨by rfl, ?_⟩) (by assumption) ?_
            rotate_left 1
            · intro w hSw
              go_simp
              try with_reducible rfl
            try simp only [Act.put, List.getElem_toArray, List.getElem_cons_zero, List.getElem_cons_succ, List.setIfInBounds_toArray, List.set_cons_zero, List.set_cons_succ]
            refine wpAnyH_take (i := 5) (v := undef) rfl (by kernel_rfl) (by kernel_rfl) (by kernel_rfl) (fun _ _ _ h => h) (Or.inr ⟨by rfl, rfl⟩) (by assumption) ?_
            try simp only [Act.put, List.getElem_toArray, List.getElem_cons_zero, List.getElem_cons_succ, List.setIfInBounds_toArray, List.set_cons_zero, List.set_cons_succ]
            refine wpAnyH_take (i := 6) (v := undef) rfl (by kernel_rfl) (by kernel_rfl) (by kernel_rfl) (fun _ _ _ h => h) (Or.inr ⟨by rfl, rfl⟩) (by assumption) ?_
            try simp only [Act.put, List.getElem_toArray, List.getElem_cons_zero, List.getElem_cons_succ, List.setIfInBounds_toArray, List.set_cons_zero, List.set_cons_succ]
            refine wpAnyH_take (i := 7) (v := undef) rfl (by kernel_rfl) (by kernel_rfl) (by kernel_rfl) (fun _ _ _ h => h) (Or.inr ⟨by rfl, rfl⟩) (by assumption) ?_
            try simp only [Act.put, List.getElem_toArray, List.getElem_cons_zero, List.getElem_cons_succ, List.setIfInBounds_toArray, List.set_cons_zero, List.set_cons_succ]
            refine wpAnyH_take (i := 8) (v := undef) rfl (by kernel_rfl) (by kernel_rfl) (by kernel_rfl) (fun _ _ _ h => h) (Or.inr ⟨by rfl, rfl⟩) (by assumption) ?_
            try simp only [Act.put, List.getElem_toArray, List.getElem_cons_zero, List.getElem_cons_succ, List.setIfInBounds_toArray, List.set_cons_zero, List.set_cons_succ]
            refine wpAnyH_take (i := 9) (v := undef) rfl (by kernel_rfl) (by kernel_rfl) (by kernel_rfl) (fun _ _ _ h => h) (Or.inr ⟨by rfl, rfl⟩) (by assumption) ?_
            try simp only [Act.put, List.getElem_toArray, List.getElem_cons_zero, List.getElem_cons_succ, List.setIfInBounds_toArray, List.set_cons_zero, List.set_cons_succ]
            refine wpAnyH_take (i := 10) (v := undef) rfl (by kernel_rfl) (by kernel_rfl) (by kernel_rfl) (fun _ _ _ h => h) (Or.inr ⟨by rfl, rfl⟩) (by assumption) ?_
            try simp only [Act.put, List.getElem_toArray, List.getElem_cons_zero, List.getElem_cons_succ, List.setIfInBounds_toArray, List.set_cons_zero, List.set_cons_succ]
            refine wpAnyH_take (i := 11) (v := undef) rfl (by kernel_rfl) (by kernel_rfl) (by kernel_rfl) (fun _ _ _ h => h) (Or.inr ⟨by rfl, rfl⟩) (by assumption) ?_
            try simp only [Act.put, List.getElem_toArray, List.getElem_cons_zero, List.getElem_cons_succ, List.setIfInBounds_toArray, List.set_cons_zero, List.set_cons_succ]
            refine wpAnyH_take (i := 12) (v := undef) rfl (by kernel_rfl) (by kernel_rfl) (by kernel_rfl) (fun _ _ _ h => h) (Or.inr ⟨by rfl, rfl⟩) (by assumption) ?_
            try simp only [Act.put, List.getElem_toArray, List.getElem_cons_zero, List.getElem_cons_succ, List.setIfInBounds_toArray, List.set_cons_zero, List.set_cons_succ]
            refine wpAnyH_ready (rs := [13]) (by kernel_rfl) (by simp) ?_
            refine AllReadyH.cons rfl (fun K hK => ?_) AllReadyH.nil
            go_simp
            refine hK.out _ _ ⟨(show wr.drew.cell? _ = _ from HC.out), (show wr.drew.heap[_]? = _ from HB1.out)⟩ (fun hHeld => ?_)
            clear hK K
            try simp only [Act.put, List.getElem_toArray, List.getElem_cons_zero, List.getElem_cons_succ, List.setIfInBounds_toArray, List.set_cons_zero, List.set_cons_succ]
            refine wpAnyH_take (i := 14) (v := undef) rfl (by kernel_rfl) (by kernel_rfl) (by kernel_rfl) (fun _ _ _ h => h) (Or.inr ⟨by rfl, rfl⟩) (by assumption) ?_
            try simp only [Act.put, List.getElem_toArray, List.getElem_cons_zero, List.getElem_cons_succ, List.setIfInBounds_toArray, List.set_cons_zero, List.set_cons_succ]
            refine wpAnyH_take (i := 15) (v := ?_) rfl (by kernel_rfl) (by kernel_rfl) (by kernel_rfl) (fun _ _ _ h => h) (Or.inl ⟨by rfl, ?_⟩) (by assumption) ?_
            rotate_left 1
            · intro w hSw
              go_simp
              try with_reducible rfl
            try simp only [Act.put, List.getElem_toArray, List.getElem_cons_zero, List.getElem_cons_succ, List.setIfInBounds_toArray, List.set_cons_zero, List.set_cons_succ]
            refine wpAnyH_take (i := 16) (v := ?_) rfl (by kernel_rfl) (by kernel_rfl) (by kernel_rfl) (fun _ _ _ h => h) (Or.inl ⟨by rfl, ?_⟩) (by assumption) ?_
            rotate_left 1
            · intro w hSw
              go_simp
              try with_reducible rfl
            try simp only [Act.put, List.getElem_toArray, List.getElem_cons_zero, List.getElem_cons_succ, List.setIfInBounds_toArray, List.set_cons_zero, List.set_cons_succ]
            refine wpAnyH_take (i := 17) (v := ?_) rfl (by kernel_rfl) (by kernel_rfl) (by kernel_rfl) (fun _ _ _ h => h) (Or.inl ⟨by rfl, ?_⟩) (by assumption) ?_
            rotate_left 1
            · intro w hSw
              go_simp
              try with_reducible rfl
            try simp only [Act.put, List.getElem_toArray, List.getElem_cons_zero, List.getElem_cons_succ, List.setIfInBounds_toArray, List.set_cons_zero, List.set_cons_succ]
            refine wpAnyH_take (i := 18) (v := ?_) rfl (by kernel_rfl) (by kernel_rfl) (by kernel_rfl) (fun _ _ _ h => h) (Or.inl ⟨by rfl, ?_⟩) (by assumption) ?_
            rotate_left 1
            · intro w hSw
              go_simp
              try with_reducible rfl
            try simp only [Act.put, List.getElem_toArray, List.getElem_cons_zero, List.getElem_cons_succ, List.setIfInBounds_toArray, List.set_cons_zero, List.set_cons_succ]
            refine wpAnyH_take (i := 19) (v := ?_) rfl (by kernel_rfl) (by kernel_rfl) (by kernel_rfl) (fun _ _ _ h => h) (Or.inl ⟨by rfl, ?_⟩) (by assumption) ?_
            rotate_left 1
            · intro w hSw
              go_simp
              try with_reducible rfl
            try simp only [Act.put, List.getElem_toArray, List.getElem_cons_zero, List.getElem_cons_succ, List.setIfInBounds_toArray, List.set_cons_zero, List.set_cons_succ]
            refine wpAnyH_take (i := 20) (v := ?_) rfl (by kernel_rfl) (by kernel_rfl) (by kernel_rfl) (fun _ _ _ h => h) (Or.inl ⟨by rfl, ?_⟩) (by assumption) ?_
            rotate_left 1
            · intro w hSw
              go_simp
              try with_reducible rfl
            try simp only [Act.put, List.getElem_toArray, List.getElem_cons_zero, List.getElem_cons_succ, List.setIfInBounds_toArray, List.set_cons_zero, List.set_cons_succ]
            refine wpAnyH_take (i := 21) (v := ?_) rfl (by kernel_rfl) (by kernel_rfl) (by kernel_rfl) (fun _ _ _ h => h) (Or.inl ⟨by rfl, ?_⟩) (by assumption) ?_
            rotate_left 1
            · intro w hSw
              go_simp
              try with_reducible rfl
            try simp only [Act.put, List.getElem_toArray, List.getElem_cons_zero, List.getElem_cons_succ, List.setIfInBounds_toArray, List.set_cons_zero, List.set_cons_succ]
            refine wpAnyH_take (i := 22) (v := ?_) rfl (by kernel_rfl) (by kernel_rfl) (by kernel_rfl) (fun _ _ _ h => h) (Or.inl ⟨by rfl, ?_⟩) (by assumption) ?_
            rotate_left 1
            · intro w hSw
              go_simp
              try with_reducible rfl
            try simp only [Act.put, List.getElem_toArray, List.getElem_cons_zero, List.getElem_cons_succ, List.setIfInBounds_toArray, List.set_cons_zero, List.set_cons_succ]
            refine wpAnyH_take (i := 23) (v := ?_) rfl (by kernel_rfl) (by kernel_rfl) (by kernel_rfl) (fun _ _ _ h => h) (Or.inl ⟨by rfl, ?_⟩) (by assumption) ?_
            rotate_left 1
            · intro w hSw
              go_simp
              try with_reducible rfl
            try simp only [Act.put, List.getElem_toArray, List.getElem_cons_zero, List.getElem_cons_succ, List.setIfInBounds_toArray, List.set_cons_zero, List.set_cons_succ]
            refine wpAnyH_take (i := 24) (v := ?_) rfl (by kernel_rfl) (by kernel_rfl) (by kernel_rfl) (fun _ _ _ h => h) (Or.inl ⟨by rfl, ?_⟩) (by assumption) ?_
            rotate_left 1
            · intro w hSw
              go_simp
              try with_reducible rfl
            try simp only [Act.put, List.getElem_toArray, List.getElem_cons_zero, List.getElem_cons_succ, List.setIfInBounds_toArray, List.set_cons_zero, List.set_cons_succ]
            refine wpAnyH_take (i := 25) (v := ?_) rfl (by kernel_rfl) (by kernel_rfl) (by kernel_rfl) (fun _ _ _ h => h) (Or.inl ⟨by rfl, ?_⟩) (by assumption) ?_
            rotate_left 1
            · intro w hSw
              obtain ⟨e1, e2⟩ := hSw
              go_simp
              try with_reducible rfl
            try simp only [Act.put, List.getElem_toArray, List.getElem_cons_zero, List.getElem_cons_succ, List.setIfInBounds_toArray, List.set_cons_zero, List.set_cons_succ]
            refine wpAnyH_take (i := 26) (v := .string ⟨#[1, 2, 3]⟩) rfl (by kernel_rfl) (by kernel_rfl) (by kernel_rfl) (fun _ _ _ h => h) (Or.inl ⟨by rfl, ?_⟩) (by assumption) ?_
            · intro w hSw
              obtain ⟨e1, e2⟩ := hSw
              have hcv := str123 e2
              go_simp
              try with_reducible rfl
            try simp only [Act.put, List.getElem_toArray, List.getElem_cons_zero, List.getElem_cons_succ, List.setIfInBounds_toArray, List.set_cons_zero, List.set_cons_succ]
            refine wpAnyH_take (i := 27) (v := ?_) rfl (by kernel_rfl) (by kernel_rfl) (by kernel_rfl) (fun _ _ _ h => h) (Or.inl ⟨by rfl, ?_⟩) (by assumption) ?_
            rotate_left 1
            · intro w hSw
              go_simp
              try with_reducible rfl
            try simp only [Act.put, List.getElem_toArray, List.getElem_cons_zero, List.getElem_cons_succ, List.setIfInBounds_toArray, List.set_cons_zero, List.set_cons_succ]
            refine wpAnyH_take (i := 28) (v := ?_) rfl (by kernel_rfl) (by kernel_rfl) (by kernel_rfl) (fun _ _ _ h => h) (Or.inl ⟨by rfl, ?_⟩) (by assumption) ?_
            rotate_left 1
            · intro w hSw
              go_simp
              try with_reducible rfl
            try simp only [Act.put, List.getElem_toArray, List.getElem_cons_zero, List.getElem_cons_succ, List.setIfInBounds_toArray, List.set_cons_zero, List.set_cons_succ]
            refine wpAnyH_take (i := 29) (v := ?_) rfl (by kernel_rfl) (by kernel_rfl) (by kernel_rfl) (fun _ _ _ h => h) (Or.inl ⟨by rfl, ?_⟩) (by assumption) ?_
            rotate_left 1
            · intro w hSw
              go_simp
              try with_reducible rfl
            try simp only [Act.put, List.getElem_toArray, List.getElem_cons_zero, List.getElem_cons_succ, List.setIfInBounds_toArray, List.set_cons_zero, List.set_cons_succ]
            refine wpAnyH_done (by kernel_rfl) ?_ _
            have HR6 : Hid (Rest wr.drew gm ls bf (j + 1)) := HRE.out.kept (by omega) ((Kept.refl (fun _ => False) wr).drew) (fun f => f) (fun _ _ _ f => f)
            have HD6 : Hid (wr.drew.heap[gd]? = some (.cells cd.toArray 28 (0, 0))) := HDD.out
            have HK6 : Hid (Kept (fun _ => False) w wr.drew) := HKK.out.drew
            clear HRE HDD HKK HC HB1 hd1 hd2 hd3 hd4
            try clear hHeld
            go_wp2
            go_roundw
            case rel => exact ⟨j + 1, by omega, by go_num, HR6.out, HD6.out, HK6.out⟩
            case measure => simp [intOf]; omega
        · obtain rfl : j = n + 3 := by omega
          have HK7 := hid_of hK
          clear hRe hK
          go_wp2_with (refine wpList_load_row rfl 28 _ rfl gd rfl 28 cd.toArray (0, 0) _ hD Tryd.underlying28 rfl hs28 ?_)
          refine (HGV.out _).mono ?_
          rintro e w8 ⟨rfl, hk8⟩
          have HK8 := hid_of (HK7.out.trans hk8)
          clear hk8 HK7 hD
          go_wp2_with fail
          refine (HJO.out _ HK8.out).mono ?_
          rintro e w9 ⟨aj, cj, rfl, hBj, hk9⟩
          have HK9 := hid_of (HK8.out.trans hk9)
          have HRJ := hid_of (HRO.out w9 _ hBj)
          clear hk9 HK8 hBj
          go_wp2_with fail
          refine HRJ.out.mono ?_
          rintro e w10 ⟨rfl, hk10⟩
          have HK10 := hid_of (HK9.out.trans hk10)
          have heq := HEQ.out
          clear hk10 HK9 HRJ
          go_wp2
          go_ret
          exact ⟨rfl, HK10.out⟩
end Go.Proofs.YtdbogfjkaebeoaaDoor

/-
  The walk of CellNones.
-/
import Derived.Test.YthiopkndbicmkabDoorFh
namespace Go.Proofs.YthiopkndbicmkabDoor
open Go.RowKit Ieee
set_option linter.unusedVariables false
set_option linter.unusedSimpArgs false

set_option maxRecDepth 100000 in
set_option maxHeartbeats 4000000 in
theorem cellNones_walk (a b : Int) (ha : Wd a) (hb : Wd b) (w : World) (hL : Laid w) : Calls Tryd.prog 3 #[.int .i64 a, .int .i64 b] w fun e w' => e = .returned (.bool true) ∧ Below w.heap.size w w' := by
  have kb := ha
  clear hb
  obtain ⟨B, hB⟩ : ∃ B, w.heap.size = B := ⟨_, rfl⟩
  rw [hB]
  go_enter Tryd.func3, Tryd.ntmps3
  go_wp2_with fail
  have nk : Below B w (w.alloc (Obj.cells #[.int .i64 36, .int .i64 37, .int .i64 38, .int .i64 39] 22)) := ⟨rfl, rfl, rfl, by simp, fun k hk => Below.heap_alloc _ _ _ (by rw [hB]; exact hk)⟩
  have nL : Laid (w.alloc (Obj.cells #[.int .i64 36, .int .i64 37, .int .i64 38, .int .i64 39] 22)) := fun t ht => by
    have h := hL t ht
    refine (World.cell?_of_block (w := w) ?_).trans h
    exact Below.heap_alloc _ _ _ (World.block_lt_of_cell? w _ h)
  have nc : ∀ k : Nat, k < 4 → (w.alloc (Obj.cells #[.int .i64 36, .int .i64 37, .int .i64 38, .int .i64 39] 22)).cell? ⟨B, k, none⟩ = some (.int .i64 (36 + (k : Int))) := fun k hk => by
    rw [← hB]
    rcases (by omega : k = 0 ∨ k = 1 ∨ k = 2 ∨ k = 3) with rfl | rfl | rfl | rfl <;> simp
  generalize w.alloc (Obj.cells #[.int .i64 36, .int .i64 37, .int .i64 38, .int .i64 39] 22) = W at *
  try rw [hB]
  clear hB
  have HC := hid_of nc
  have HBW := hid_of nk
  have HT : Hid (∀ op a b n, Calls Tryd.prog 7 #[.int .i64 op, .int .i64 a, .int .i64 b] (W.drewN n) fun e w' => e = .returned (.int .i64 (twoL op a b)) ∧ ∃ q, w' = W.drewN q) := fun op a b n => law_two_n W nL op a b n
  have HH : Hid (∀ n, Calls Tryd.prog 10 #[] (W.drewN n) fun e w' => e = .returned (.bool true) ∧ ∃ q, w' = W.drewN q) := fun n => head_n W nL n
  have HA : Hid (∀ n, Calls Tryd.prog 6 #[.int .i64 a] (W.drewN n) fun e w' => e = .returned (.bool (nanB (bitsOf a))) ∧ ∃ q, w' = W.drewN q) := fun n => nan_n W a n
  have HB : Hid (∀ n, Calls Tryd.prog 6 #[.int .i64 b] (W.drewN n) fun e w' => e = .returned (.bool (nanB (bitsOf b))) ∧ ∃ q, w' = W.drewN q) := fun n => nan_n W b n
  have H5 : Hid (∀ k : Nat, k < 4 → ∀ n, Calls Tryd.prog 5 #[.int .i64 (36 + (k : Int)), .int .i64 a, .int .i64 b] (W.drewN n) fun e w' => e = .returned (.tuple #[.int .i64 (fW k a b), .int .i64 0]) ∧ ∃ q, w' = W.drewN q) := fun k hk n => by
    have := two_n W nL (36 + (k : Int)) a b n
    rw [fW_two k hk] at this
    exact this
  have HFN : Hid (∀ k n, Calls Tryd.prog 6 #[.int .i64 (fW k a b)] (W.drewN n) fun e w' => e = .returned (.bool (nanB (bitsOf (fW k a b)))) ∧ ∃ q, w' = W.drewN q) := fun k n => nan_n W _ n
  have HFO : Hid (∀ k, nanB (bitsOf (fW k a b)) = true → fW k a b = 9221120237041090560) := fun k => fW_nan k a b
  have HF1 : Hid (∀ k, (nanB (bitsOf a) || nanB (bitsOf b)) = true → fW k a b = 9221120237041090560) := fun k h => fW_none k a b h
  have HF2 : Hid ((nanB (bitsOf a) || nanB (bitsOf b)) = true → twoL 40 a b = 0 ∧ twoL 41 a b = 0) := fun h => none_feq h
  have O1 : Hid (∀ n, Calls Tryd.prog 8 #[.int .i64 42, .int .i64 a] (W.drewN n) fun e w' => e = .returned (.int .i64 (oneL 42 a)) ∧ ∃ q, w' = W.drewN q) := fun n => law_one_n W nL 42 a ha n
  have O2 : Hid (∀ n, Calls Tryd.prog 8 #[.int .i64 43, .int .i64 a] (W.drewN n) fun e w' => e = .returned (.int .i64 (oneL 43 a)) ∧ ∃ q, w' = W.drewN q) := fun n => law_one_n W nL 43 a ha n
  have O3 : Hid (∀ n, Calls Tryd.prog 9 #[.int .i64 45, .int .i64 a] (W.drewN n) fun e w' => e = .returned (.tuple #[.int .i64 (oneV 45 a).1, .int .i64 (oneV 45 a).2]) ∧ ∃ q, w' = W.drewN q) := fun n => one_n W nL 45 a ha n
  have O4 : Hid (∀ n, Calls Tryd.prog 8 #[.int .i64 42, .int .i64 (oneL 42 a)] (W.drewN n) fun e w' => e = .returned (.int .i64 (oneL 42 (oneL 42 a))) ∧ ∃ q, w' = W.drewN q) := fun n => law_one_n W nL 42 _ wd_fneg n
  have O5 : Hid (∀ n, Calls Tryd.prog 6 #[.int .i64 (oneL 43 a)] (W.drewN n) fun e w' => e = .returned (.bool (nanB (bitsOf (oneL 43 a)))) ∧ ∃ q, w' = W.drewN q) := fun n => nan_n W _ n
  have HN1 : Hid (nanB (bitsOf a) = true → oneL 42 a = 9221120237041090560 ∧ oneL 43 a = 9221120237041090560 ∧ oneV 45 a = (0, 6)) := fun h => ⟨none_neg h, none_root h, none_toi ha h⟩
  have HN2 : Hid (nanB (bitsOf a) = false → oneL 42 (oneL 42 a) = a) := fun h => (neg_neg ha h).1
  have HN3 : Hid (nanB (bitsOf a) = false → nanB (bitsOf (oneL 43 a)) = false ∨ (nanB (bitsOf (oneL 43 a)) = true ∧ oneL 43 a = 9221120237041090560 ∧ twoL 41 a 0 = 1)) := fun h => root_num h
  clear ha kb nc nk nL hL
  generalize nanB (bitsOf a) = na at *
  generalize nanB (bitsOf b) = nb at *
  go_loopw [6] (fun i wr => ∃ k q : Nat, k ≤ 4 ∧ i = .int .i64 k ∧ wr = W.drewN q) (fun i _ => 4 - (intOf i).toNat)
  case atStart => exact ⟨0, 0, by omega, rfl, rfl⟩
  case round =>
    obtain ⟨k, q0, hk, rfl, rfl⟩ := hrel
    by_cases hk4 : k < 4
    · have hb1 : (k : Int) < 4 := by omega
      have hc : (W.drewN q0).cell? ⟨B, k, none⟩ = some (.int .i64 (36 + (k : Int))) := HC.out k hk4
      have H5k := hid_of (H5.out k hk4)
      have HFNk := hid_of (HFN.out k)
      have hfo := HFO.out k
      have hf1 := HF1.out k
      generalize fW k a b = F at *
      generalize nanB (bitsOf F) = nF at *
      obtain ⟨z, hz⟩ : ∃ z, (F != 9221120237041090560) = z := ⟨_, rfl⟩
      have hzz : nF = true ∨ (na || nb) = true → z = false := by
        intro h
        have : F = 9221120237041090560 := by rcases h with h | h; exact hfo h; exact hf1 h
        rw [← hz, this]; rfl
      clear hfo hf1
      cases na
      · cases nb
        · cases nF
          · clear hzz
            go_wp2_with fail
            refine (H5k.out _).mono ?_
            rintro e w' ⟨rfl, q, rfl⟩
            go_wp2_with fail
            refine (HFNk.out _).mono ?_
            rintro e w' ⟨rfl, q, rfl⟩
            go_wp2_with fail
            refine (HA.out _).mono ?_
            rintro e w' ⟨rfl, q, rfl⟩
            go_wp2_with fail
            refine (HB.out _).mono ?_
            rintro e w' ⟨rfl, q, rfl⟩
            go_wp2
            go_roundw
            case rel => exact ⟨k + 1, _, by omega, by go_num, by first | rfl | trivial⟩
            case measure => simp [intOf]; omega
          · have hz0 := hzz (Or.inl rfl)
            subst hz0
            clear hzz
            go_wp2_with fail
            refine (H5k.out _).mono ?_
            rintro e w' ⟨rfl, q, rfl⟩
            go_wp2_with fail
            refine (HFNk.out _).mono ?_
            rintro e w' ⟨rfl, q, rfl⟩
            go_wp2_with fail
            refine (HA.out _).mono ?_
            rintro e w' ⟨rfl, q, rfl⟩
            go_wp2_with fail
            refine (HB.out _).mono ?_
            rintro e w' ⟨rfl, q, rfl⟩
            go_wp2
            go_roundw
            case rel => exact ⟨k + 1, _, by omega, by go_num, by first | rfl | trivial⟩
            case measure => simp [intOf]; omega
        · have hz0 := hzz (Or.inr rfl)
          subst hz0
          clear hzz
          cases nF
          · go_wp2_with fail
            refine (H5k.out _).mono ?_
            rintro e w' ⟨rfl, q, rfl⟩
            go_wp2_with fail
            refine (HFNk.out _).mono ?_
            rintro e w' ⟨rfl, q, rfl⟩
            go_wp2_with fail
            refine (HA.out _).mono ?_
            rintro e w' ⟨rfl, q, rfl⟩
            go_wp2_with fail
            refine (HB.out _).mono ?_
            rintro e w' ⟨rfl, q, rfl⟩
            go_wp2
            go_roundw
            case rel => exact ⟨k + 1, _, by omega, by go_num, by first | rfl | trivial⟩
            case measure => simp [intOf]; omega
          · go_wp2_with fail
            refine (H5k.out _).mono ?_
            rintro e w' ⟨rfl, q, rfl⟩
            go_wp2_with fail
            refine (HFNk.out _).mono ?_
            rintro e w' ⟨rfl, q, rfl⟩
            go_wp2_with fail
            refine (HA.out _).mono ?_
            rintro e w' ⟨rfl, q, rfl⟩
            go_wp2_with fail
            refine (HB.out _).mono ?_
            rintro e w' ⟨rfl, q, rfl⟩
            go_wp2
            go_roundw
            case rel => exact ⟨k + 1, _, by omega, by go_num, by first | rfl | trivial⟩
            case measure => simp [intOf]; omega
      · have hz0 := hzz (Or.inr rfl)
        subst hz0
        clear hzz
        cases nF
        · go_wp2_with fail
          refine (H5k.out _).mono ?_
          rintro e w' ⟨rfl, q, rfl⟩
          go_wp2_with fail
          refine (HFNk.out _).mono ?_
          rintro e w' ⟨rfl, q, rfl⟩
          go_wp2_with fail
          refine (HA.out _).mono ?_
          rintro e w' ⟨rfl, q, rfl⟩
          go_wp2
          go_roundw
          case rel => exact ⟨k + 1, _, by omega, by go_num, by first | rfl | trivial⟩
          case measure => simp [intOf]; omega
        · go_wp2_with fail
          refine (H5k.out _).mono ?_
          rintro e w' ⟨rfl, q, rfl⟩
          go_wp2_with fail
          refine (HFNk.out _).mono ?_
          rintro e w' ⟨rfl, q, rfl⟩
          go_wp2_with fail
          refine (HA.out _).mono ?_
          rintro e w' ⟨rfl, q, rfl⟩
          go_wp2
          go_roundw
          case rel => exact ⟨k + 1, _, by omega, by go_num, by first | rfl | trivial⟩
          case measure => simp [intOf]; omega
    · obtain rfl : k = 4 := by omega
      cases na
      · have hn2 := HN2.out rfl
        rw [hn2] at O4
        clear hn2
        have hn3 := HN3.out rfl
        cases nb
        · rcases hn3 with h3 | ⟨h3, h4, h5⟩
          · rw [h3] at O5
            clear h3
            go_wp2_with fail
            refine (HA.out _).mono ?_
            rintro e w' ⟨rfl, q, rfl⟩
            go_wp2_with fail
            refine (HB.out _).mono ?_
            rintro e w' ⟨rfl, q, rfl⟩
            go_wp2_with fail
            refine (O1.out _).mono ?_
            rintro e w' ⟨rfl, q, rfl⟩
            go_wp2_with fail
            refine (O2.out _).mono ?_
            rintro e w' ⟨rfl, q, rfl⟩
            go_wp2_with fail
            refine (O3.out _).mono ?_
            rintro e w' ⟨rfl, q, rfl⟩
            go_wp2_with fail
            refine (HA.out _).mono ?_
            rintro e w' ⟨rfl, q, rfl⟩
            go_wp2_with fail
            refine (O4.out _).mono ?_
            rintro e w' ⟨rfl, q, rfl⟩
            go_wp2_with fail
            refine (O5.out _).mono ?_
            rintro e w' ⟨rfl, q, rfl⟩
            go_wp2_with fail
            refine (HH.out _).mono ?_
            rintro e w' ⟨rfl, q, rfl⟩
            go_wp2
            all_goals go_ret
            all_goals exact ⟨rfl, below_drewN HBW.out _⟩
          · rw [h3] at O5
            rw [h4] at O2 O5
            clear h4
            clear h3
            go_wp2_with fail
            refine (HA.out _).mono ?_
            rintro e w' ⟨rfl, q, rfl⟩
            go_wp2_with fail
            refine (HB.out _).mono ?_
            rintro e w' ⟨rfl, q, rfl⟩
            go_wp2_with fail
            refine (O1.out _).mono ?_
            rintro e w' ⟨rfl, q, rfl⟩
            go_wp2_with fail
            refine (O2.out _).mono ?_
            rintro e w' ⟨rfl, q, rfl⟩
            go_wp2_with fail
            refine (O3.out _).mono ?_
            rintro e w' ⟨rfl, q, rfl⟩
            go_wp2_with fail
            refine (HA.out _).mono ?_
            rintro e w' ⟨rfl, q, rfl⟩
            go_wp2_with fail
            refine (O4.out _).mono ?_
            rintro e w' ⟨rfl, q, rfl⟩
            go_wp2_with fail
            refine (O5.out _).mono ?_
            rintro e w' ⟨rfl, q, rfl⟩
            go_wp2_with fail
            refine (HT.out _ _ _ _).mono ?_
            rintro e w' ⟨rfl, q, rfl⟩
            go_wp2_with fail
            refine (HH.out _).mono ?_
            rintro e w' ⟨rfl, q, rfl⟩
            go_wp2
            all_goals go_ret
            all_goals exact ⟨rfl, below_drewN HBW.out _⟩
        · obtain ⟨g1, g2⟩ := HF2.out rfl
          rcases hn3 with h3 | ⟨h3, h4, h5⟩
          · rw [h3] at O5
            clear h3
            go_wp2_with fail
            refine (HA.out _).mono ?_
            rintro e w' ⟨rfl, q, rfl⟩
            go_wp2_with fail
            refine (HB.out _).mono ?_
            rintro e w' ⟨rfl, q, rfl⟩
            go_wp2_with fail
            refine (HT.out _ _ _ _).mono ?_
            rintro e w' ⟨rfl, q, rfl⟩
            go_wp2_with fail
            refine (HT.out _ _ _ _).mono ?_
            rintro e w' ⟨rfl, q, rfl⟩
            go_wp2_with fail
            refine (O1.out _).mono ?_
            rintro e w' ⟨rfl, q, rfl⟩
            go_wp2_with fail
            refine (O2.out _).mono ?_
            rintro e w' ⟨rfl, q, rfl⟩
            go_wp2_with fail
            refine (O3.out _).mono ?_
            rintro e w' ⟨rfl, q, rfl⟩
            go_wp2_with fail
            refine (HA.out _).mono ?_
            rintro e w' ⟨rfl, q, rfl⟩
            go_wp2_with fail
            refine (O4.out _).mono ?_
            rintro e w' ⟨rfl, q, rfl⟩
            go_wp2_with fail
            refine (O5.out _).mono ?_
            rintro e w' ⟨rfl, q, rfl⟩
            go_wp2_with fail
            refine (HH.out _).mono ?_
            rintro e w' ⟨rfl, q, rfl⟩
            go_wp2
            all_goals go_ret
            all_goals exact ⟨rfl, below_drewN HBW.out _⟩
          · rw [h3] at O5
            rw [h4] at O2 O5
            clear h4
            clear h3
            go_wp2_with fail
            refine (HA.out _).mono ?_
            rintro e w' ⟨rfl, q, rfl⟩
            go_wp2_with fail
            refine (HB.out _).mono ?_
            rintro e w' ⟨rfl, q, rfl⟩
            go_wp2_with fail
            refine (HT.out _ _ _ _).mono ?_
            rintro e w' ⟨rfl, q, rfl⟩
            go_wp2_with fail
            refine (HT.out _ _ _ _).mono ?_
            rintro e w' ⟨rfl, q, rfl⟩
            go_wp2_with fail
            refine (O1.out _).mono ?_
            rintro e w' ⟨rfl, q, rfl⟩
            go_wp2_with fail
            refine (O2.out _).mono ?_
            rintro e w' ⟨rfl, q, rfl⟩
            go_wp2_with fail
            refine (O3.out _).mono ?_
            rintro e w' ⟨rfl, q, rfl⟩
            go_wp2_with fail
            refine (HA.out _).mono ?_
            rintro e w' ⟨rfl, q, rfl⟩
            go_wp2_with fail
            refine (O4.out _).mono ?_
            rintro e w' ⟨rfl, q, rfl⟩
            go_wp2_with fail
            refine (O5.out _).mono ?_
            rintro e w' ⟨rfl, q, rfl⟩
            go_wp2_with fail
            refine (HT.out _ _ _ _).mono ?_
            rintro e w' ⟨rfl, q, rfl⟩
            go_wp2_with fail
            refine (HH.out _).mono ?_
            rintro e w' ⟨rfl, q, rfl⟩
            go_wp2
            all_goals go_ret
            all_goals exact ⟨rfl, below_drewN HBW.out _⟩
      · obtain ⟨m1, m2, m3⟩ := HN1.out rfl
        rw [m3] at O3
        rw [m1] at O1
        rw [m2] at O2
        clear m1 m2 m3
        obtain ⟨g1, g2⟩ := HF2.out rfl
        go_wp2_with fail
        refine (HA.out _).mono ?_
        rintro e w' ⟨rfl, q, rfl⟩
        go_wp2_with fail
        refine (HT.out _ _ _ _).mono ?_
        rintro e w' ⟨rfl, q, rfl⟩
        go_wp2_with fail
        refine (HT.out _ _ _ _).mono ?_
        rintro e w' ⟨rfl, q, rfl⟩
        go_wp2_with fail
        refine (O1.out _).mono ?_
        rintro e w' ⟨rfl, q, rfl⟩
        go_wp2_with fail
        refine (O2.out _).mono ?_
        rintro e w' ⟨rfl, q, rfl⟩
        go_wp2_with fail
        refine (O3.out _).mono ?_
        rintro e w' ⟨rfl, q, rfl⟩
        go_wp2_with fail
        refine (HA.out _).mono ?_
        rintro e w' ⟨rfl, q, rfl⟩
        go_wp2_with fail
        refine (HH.out _).mono ?_
        rintro e w' ⟨rfl, q, rfl⟩
        go_wp2
        all_goals go_ret
        all_goals exact ⟨rfl, below_drewN HBW.out _⟩
end Go.Proofs.YthiopkndbicmkabDoor

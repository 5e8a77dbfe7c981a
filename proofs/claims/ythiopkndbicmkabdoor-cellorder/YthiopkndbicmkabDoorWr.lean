/-
  The walk of CellOrder.
-/
import Derived.Test.YthiopkndbicmkabDoorFh
namespace Go.Proofs.YthiopkndbicmkabDoor
open Go.RowKit Ieee
set_option linter.unusedVariables false
set_option linter.unusedSimpArgs false

theorem rank_word {a : Int} (ha : Wd a) : rankB (bitsOf a) = if a < 0 then -9223372036854775808 - a else a := by
  have hn := negB_bits ha
  have hr := rungB_bits a
  obtain ⟨a0, a1⟩ := ha
  unfold rankB
  rw [hn, hr]
  by_cases c : a < 0
  · rw [decide_eq_true c, if_pos rfl, if_pos c]; omega
  · rw [decide_eq_false c, if_neg Bool.false_ne_true, if_neg c]; omega

set_option maxRecDepth 100000 in
set_option maxHeartbeats 4000000 in
theorem cellOrder_walk (a b : Int) (ha : Wd a) (hb : Wd b) (w : World) (hL : Laid w) : Calls Tryd.prog 4 #[.int .i64 a, .int .i64 b] w (Gone w) := by
  have HT : Hid (∀ op a b n, Calls Tryd.prog 7 #[.int .i64 op, .int .i64 a, .int .i64 b] (w.drewN n) fun e w' => e = .returned (.int .i64 (twoL op a b)) ∧ ∃ q, w' = w.drewN q) := fun op a b n => law_two_n w hL op a b n
  have HH : Hid (∀ n, Calls Tryd.prog 10 #[] (w.drewN n) fun e w' => e = .returned (.bool true) ∧ ∃ q, w' = w.drewN q) := fun n => head_n w hL n
  have HA : Hid (∀ n, Calls Tryd.prog 6 #[.int .i64 a] (w.drewN n) fun e w' => e = .returned (.bool (nanB (bitsOf a))) ∧ ∃ q, w' = w.drewN q) := fun n => nan_n w a n
  have HB : Hid (∀ n, Calls Tryd.prog 6 #[.int .i64 b] (w.drewN n) fun e w' => e = .returned (.bool (nanB (bitsOf b))) ∧ ∃ q, w' = w.drewN q) := fun n => nan_n w b n
  have f1 := L_flt a b
  have f2 := L_feq a b
  unfold fltB at f1
  unfold feqB at f2
  have ra := rank_word ha
  have rb := rank_word hb
  obtain ⟨a0, a1⟩ := ha
  obtain ⟨b0, b1⟩ := hb
  cases na : nanB (bitsOf a)
  · cases nb : nanB (bitsOf b)
    · rw [na] at HA
      rw [nb] at HB
      rw [na, nb] at f1 f2
      simp only [Bool.not_false, Bool.true_and] at f1 f2
      generalize rankB (bitsOf a) = x at *
      generalize rankB (bitsOf b) = y at *
      obtain ⟨l, hl⟩ : ∃ l, decide (x < y) = l := ⟨_, rfl⟩
      obtain ⟨e, he⟩ : ∃ l, (x == y) = l := ⟨_, rfl⟩
      rw [hl] at f1
      rw [he] at f2
      have g1 : (twoL 41 a b == 1) = l := by rw [f1]; cases l <;> rfl
      have g2 : (twoL 40 a b == 1) = e := by rw [f2]; cases e <;> rfl
      clear f1 f2 na nb hL
      by_cases ca : a < 0
      · rw [if_pos ca] at ra
        have ca' : decide (a < 0) = true := decide_eq_true ca
        have wa : wrap64 (-9223372036854775808 - a) = x := by rw [← ra] ; exact IntWalk.wrap64_in _ (by omega)
        by_cases cb : b < 0
        · rw [if_pos cb] at rb
          have cb' : decide (b < 0) = true := decide_eq_true cb
          have wb : wrap64 (-9223372036854775808 - b) = y := by rw [← rb] ; exact IntWalk.wrap64_in _ (by omega)
          have HRA := hid_of ra
          have HRB := hid_of rb
          clear ra rb a0 a1 b0 b1
          go_enter Tryd.func4, Tryd.ntmps4
          go_wp2_with fail
          refine (HA.out 0).mono ?_
          rintro e w' ⟨rfl, q, rfl⟩
          go_wp2_with fail
          refine (HB.out _).mono ?_
          rintro e w' ⟨rfl, q, rfl⟩
          go_wp2_with fail
          refine (HT.out _ _ _ _).mono ?_
          rintro e w' ⟨rfl, q, rfl⟩
          go_wp2_with fail
          refine (HT.out _ _ _ _).mono ?_
          rintro e w' ⟨rfl, q, rfl⟩
          go_wp2_with fail
          refine (HH.out _).mono ?_
          rintro e w' ⟨rfl, q, rfl⟩
          go_wp2
          all_goals go_ret
          all_goals exact ⟨rfl, _, rfl⟩
        · rw [if_neg cb] at rb
          have cb' : decide (b < 0) = false := decide_eq_false cb
          subst rb
          have HRA := hid_of ra
          clear ra a0 a1 b0 b1
          go_enter Tryd.func4, Tryd.ntmps4
          go_wp2_with fail
          refine (HA.out 0).mono ?_
          rintro e w' ⟨rfl, q, rfl⟩
          go_wp2_with fail
          refine (HB.out _).mono ?_
          rintro e w' ⟨rfl, q, rfl⟩
          go_wp2_with fail
          refine (HT.out _ _ _ _).mono ?_
          rintro e w' ⟨rfl, q, rfl⟩
          go_wp2_with fail
          refine (HT.out _ _ _ _).mono ?_
          rintro e w' ⟨rfl, q, rfl⟩
          go_wp2_with fail
          refine (HH.out _).mono ?_
          rintro e w' ⟨rfl, q, rfl⟩
          go_wp2
          all_goals go_ret
          all_goals exact ⟨rfl, _, rfl⟩
      · rw [if_neg ca] at ra
        have ca' : decide (a < 0) = false := decide_eq_false ca
        subst ra
        by_cases cb : b < 0
        · rw [if_pos cb] at rb
          have cb' : decide (b < 0) = true := decide_eq_true cb
          have wb : wrap64 (-9223372036854775808 - b) = y := by rw [← rb] ; exact IntWalk.wrap64_in _ (by omega)
          have HRB := hid_of rb
          clear rb a0 a1 b0 b1
          go_enter Tryd.func4, Tryd.ntmps4
          go_wp2_with fail
          refine (HA.out 0).mono ?_
          rintro e w' ⟨rfl, q, rfl⟩
          go_wp2_with fail
          refine (HB.out _).mono ?_
          rintro e w' ⟨rfl, q, rfl⟩
          go_wp2_with fail
          refine (HT.out _ _ _ _).mono ?_
          rintro e w' ⟨rfl, q, rfl⟩
          go_wp2_with fail
          refine (HT.out _ _ _ _).mono ?_
          rintro e w' ⟨rfl, q, rfl⟩
          go_wp2_with fail
          refine (HH.out _).mono ?_
          rintro e w' ⟨rfl, q, rfl⟩
          go_wp2
          all_goals go_ret
          all_goals exact ⟨rfl, _, rfl⟩
        · rw [if_neg cb] at rb
          have cb' : decide (b < 0) = false := decide_eq_false cb
          subst rb
          clear a0 a1 b0 b1
          go_enter Tryd.func4, Tryd.ntmps4
          go_wp2_with fail
          refine (HA.out 0).mono ?_
          rintro e w' ⟨rfl, q, rfl⟩
          go_wp2_with fail
          refine (HB.out _).mono ?_
          rintro e w' ⟨rfl, q, rfl⟩
          go_wp2_with fail
          refine (HT.out _ _ _ _).mono ?_
          rintro e w' ⟨rfl, q, rfl⟩
          go_wp2_with fail
          refine (HT.out _ _ _ _).mono ?_
          rintro e w' ⟨rfl, q, rfl⟩
          go_wp2_with fail
          refine (HH.out _).mono ?_
          rintro e w' ⟨rfl, q, rfl⟩
          go_wp2
          all_goals go_ret
          all_goals exact ⟨rfl, _, rfl⟩
    · rw [na] at HA
      rw [nb] at HB
      clear f1 f2 ra rb a0 a1 b0 b1 hL
      go_enter Tryd.func4, Tryd.ntmps4
      go_wp2_with fail
      refine (HA.out 0).mono ?_
      rintro e w' ⟨rfl, q, rfl⟩
      go_wp2_with fail
      refine (HB.out _).mono ?_
      rintro e w' ⟨rfl, q, rfl⟩
      go_wp2_with fail
      refine (HH.out _).mono ?_
      rintro e w' ⟨rfl, q, rfl⟩
      go_wp2
      all_goals go_ret
      all_goals exact ⟨rfl, _, rfl⟩
  · rw [na] at HA
    clear f1 f2 ra rb a0 a1 b0 b1 hL
    go_enter Tryd.func4, Tryd.ntmps4
    go_wp2_with fail
    refine (HA.out 0).mono ?_
    rintro e w' ⟨rfl, q, rfl⟩
    go_wp2_with fail
    refine (HH.out _).mono ?_
    rintro e w' ⟨rfl, q, rfl⟩
    go_wp2
    all_goals go_ret
    all_goals exact ⟨rfl, _, rfl⟩
end Go.Proofs.YthiopkndbicmkabDoor

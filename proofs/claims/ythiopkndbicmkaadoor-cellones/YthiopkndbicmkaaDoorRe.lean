/-
  The document's One and Has1.
-/
import Derived.Test.YthiopkndbicmkaaDoorRd
namespace Go.Proofs.YthiopkndbicmkaaDoor
open Go.RowKit
set_option linter.unusedVariables false
set_option linter.unusedSimpArgs false

theorem tofloat_any (a : Int) (ha : Wd a) (w : World) :
    Calls Tryd.prog 43 #[.int .i64 a] w fun e w' => e = .returned (.int .i64 (wordOf (floatOfInt .f64 a))) ∧ w' = w := by
  have hw : wordOf (floatOfInt .f64 a) = wrap64 ((Ieee.double.nearest (decide (a < 0)) a.natAbs 0 : Nat) : Int) := by
    rw [X_tof]
    unfold wordOf
    rw [X_nan, if_neg Bool.false_ne_true]
    rfl
  rw [hw]
  obtain ⟨h0, h1⟩ := ha
  by_cases hz : a = 0
  · subst hz
    have e : wrap64 ((Ieee.double.nearest (decide ((0 : Int) < 0)) (0 : Int).natAbs 0 : Nat) : Int) = 0 := by decide +kernel
    rw [e]
    clear hw e h0 h1
    go_enter Tryd.func43, Tryd.ntmps43
    go_wp2
    go_ret
    exact ⟨rfl, rfl⟩
  · by_cases c : a < 0
    · rw [decide_eq_true c]
      exact tofloat_x true a a.natAbs (by rw [if_pos rfl]; omega) (by omega) (by omega) (fun h => by cases h) w
    · rw [decide_eq_false c]
      exact tofloat_x false a a.natAbs (by rw [if_neg Bool.false_ne_true]; omega) (by omega) (by omega) (fun h => by omega) w

set_option maxRecDepth 100000 in
set_option maxHeartbeats 2000000 in
theorem toint_any (a : Int) (ha : Wd a) (w : World) :
    Calls Tryd.prog 44 #[.int .i64 a] w fun e w' => e = .returned (.tuple #[.int .i64 (tiV a).1, .int .i64 (tiV a).2]) ∧ w' = w := by
  have HP : Hid (∀ W, Calls Tryd.prog 46 #[.int .i64 a] W fun e w' => e = .returned (.tuple #[.int .i64 (a / 4503599627370496 % 2048), .int .i64 (a % 4503599627370496)]) ∧ w' = W) := fun W => power_any a W
  unfold tiV
  obtain ⟨P, hP⟩ : ∃ P : Nat, a / 4503599627370496 % 2048 = (P : Int) := ⟨(a / 4503599627370496 % 2048).toNat, by omega⟩
  obtain ⟨M, hM⟩ : ∃ M : Nat, a % 4503599627370496 = (M : Int) := ⟨(a % 4503599627370496).toNat, by omega⟩
  have hP2 : P < 2048 := by omega
  have hM2 : M < 4503599627370496 := by omega
  rw [hP, hM] at HP
  rw [hP, hM]
  have HPE := hid_of hP
  obtain ⟨a0, a1⟩ := ha
  clear hP hM
  by_cases c1 : P < 1023
  · rw [if_pos (by omega)]
    have c1' : (P : Int) < 1023 := by omega
    clear a0 a1
    go_enter Tryd.func44, Tryd.ntmps44
    go_wp2_with fail
    refine (HP.out _).mono ?_
    rintro e w' ⟨rfl, rfl⟩
    go_wp2
    all_goals go_ret2
    all_goals exact ⟨rfl, rfl⟩
  · rw [if_neg (by omega)]
    have c1' : ¬ ((P : Int) < 1023) := by omega
    have c1'' : decide ((P : Int) < 1023) = false := decide_eq_false c1'
    by_cases c2 : 1086 ≤ P
    · rw [if_pos (by omega)]
      have c2' : (1086 : Int) ≤ (P : Int) := by omega
      by_cases c3 : a = -4332462841530417152
      · rw [if_pos c3]
        have c3' : (a == -4332462841530417152) = true := by simpa using c3
        clear a0 a1 c3
        go_enter Tryd.func44, Tryd.ntmps44
        go_wp2_with fail
        refine (HP.out _).mono ?_
        rintro e w' ⟨rfl, rfl⟩
        go_wp2
        all_goals go_ret2
        all_goals exact ⟨rfl, rfl⟩
      · rw [if_neg c3]
        have c3' : (a == -4332462841530417152) = false := by simpa using c3
        clear a0 a1
        go_enter Tryd.func44, Tryd.ntmps44
        go_wp2_with fail
        refine (HP.out _).mono ?_
        rintro e w' ⟨rfl, rfl⟩
        go_wp2
        all_goals go_ret2
        all_goals exact ⟨rfl, rfl⟩
    · rw [if_neg (by omega)]
      have c2' : ¬ ((1086 : Int) ≤ (P : Int)) := by omega
      have c2'' : decide ((1086 : Int) ≤ (P : Int)) = false := decide_eq_false c2'
      obtain ⟨N, hN, hN1, hN2⟩ : ∃ N : Int, (if (1075 : Int) ≤ (P : Int) then ((M : Int) + 4503599627370496) * 2 ^ ((P : Int) - 1075).toNat else ((M : Int) + 4503599627370496) / 2 ^ (1075 - (P : Int)).toNat) = N ∧ 0 ≤ N ∧ N ≤ 9223372036854775807 := by
        refine ⟨_, rfl, ?_⟩
        by_cases c3 : 1075 ≤ P
        · rw [if_pos (by omega)]
          have hk : 2 ^ ((P : Int) - 1075).toNat ≤ 2 ^ 10 := Nat.pow_le_pow_right (by decide) (by omega)
          have e : ((M : Int) + 4503599627370496) * 2 ^ ((P : Int) - 1075).toNat = (((M + 4503599627370496) * 2 ^ ((P : Int) - 1075).toNat : Nat) : Int) := by simp
          rw [e]
          have := Nat.mul_le_mul_left (M + 4503599627370496) hk
          omega
        · rw [if_neg (by omega)]
          have e : ((M : Int) + 4503599627370496) / 2 ^ (1075 - (P : Int)).toNat = (((M + 4503599627370496) / 2 ^ (1075 - (P : Int)).toNat : Nat) : Int) := by simp
          rw [e]
          have := Nat.div_le_self (M + 4503599627370496) (2 ^ (1075 - (P : Int)).toNat)
          generalize (M + 4503599627370496) / 2 ^ (1075 - (P : Int)).toNat = D at *
          omega
      rw [hN]
      dsimp only
      by_cases c3 : 1075 ≤ P
      · have c3' : (1075 : Int) ≤ (P : Int) := by omega
        have hN' : wrap64 (((M : Int) + 4503599627370496) * 2 ^ (P - 1023 - 52)) = N := by
          rw [if_pos c3', show ((P : Int) - 1075).toNat = P - 1023 - 52 by omega] at hN
          rw [hN]
          exact IntWalk.wrap64_in _ (by omega)
        have HNN := hid_of hN
        clear hN
        by_cases cs : a < 0
        · have s1 : decide (a < 0) = true := decide_eq_true cs
          rw [if_pos cs]
          clear a0 a1
          go_enter Tryd.func44, Tryd.ntmps44
          go_wp2_with fail
          refine (HP.out _).mono ?_
          rintro e w' ⟨rfl, rfl⟩
          go_wp2
          all_goals go_ret2
          all_goals exact ⟨by first | rfl | (rw [← hN']; rfl), rfl⟩
        · have s1 : decide (a < 0) = false := decide_eq_false cs
          rw [if_neg cs]
          clear a0 a1
          go_enter Tryd.func44, Tryd.ntmps44
          go_wp2_with fail
          refine (HP.out _).mono ?_
          rintro e w' ⟨rfl, rfl⟩
          go_wp2
          all_goals go_ret2
          all_goals exact ⟨by first | rfl | (rw [← hN']; rfl), rfl⟩
      · have c3' : ¬ ((1075 : Int) ≤ (P : Int)) := by omega
        have c3'' : decide ((1075 : Int) ≤ (P : Int)) = false := decide_eq_false c3'
        have hN' : ((M : Int) + 4503599627370496) / 2 ^ (1075 - P) = N := by
          rw [if_neg c3', show (1075 - (P : Int)).toNat = 1075 - P by omega] at hN
          exact hN
        have HNN := hid_of hN
        clear hN
        by_cases cs : a < 0
        · have s1 : decide (a < 0) = true := decide_eq_true cs
          rw [if_pos cs]
          clear a0 a1
          go_enter Tryd.func44, Tryd.ntmps44
          go_wp2_with fail
          refine (HP.out _).mono ?_
          rintro e w' ⟨rfl, rfl⟩
          go_wp2
          all_goals go_ret2
          all_goals exact ⟨by first | rfl | (rw [← hN']; rfl), rfl⟩
        · have s1 : decide (a < 0) = false := decide_eq_false cs
          rw [if_neg cs]
          clear a0 a1
          go_enter Tryd.func44, Tryd.ntmps44
          go_wp2_with fail
          refine (HP.out _).mono ?_
          rintro e w' ⟨rfl, rfl⟩
          go_wp2
          all_goals go_ret2
          all_goals exact ⟨by first | rfl | (rw [← hN']; rfl), rfl⟩

theorem not_eq2 {a : Int} (h : Wd a) : wrap64 (-1 - a) = bits .xor .i64 (-1) a := by
  rw [not_eq h]; obtain ⟨h0, h1⟩ := h; exact IntWalk.wrap64_in _ (by omega)

theorem neg_bits (a : Int) : Op.negFloat .f64 (bitsOf a) = bitsOf a ^^^ 9223372036854775808 := rfl

theorem nan_neg (a : Int) : nanB (Op.negFloat .f64 (bitsOf a)) = nanB (bitsOf a) := by
  rw [neg_bits]
  unfold nanB
  have h : (bitsOf a ^^^ 9223372036854775808) % 9223372036854775808 = bitsOf a % 9223372036854775808 := by
    have := Nat.xor_mod_two_pow (a := bitsOf a) (b := 9223372036854775808) (n := 63)
    rw [show (2 : Nat) ^ 63 = 9223372036854775808 from rfl, Nat.mod_self, Nat.xor_zero] at this
    exact this
  rw [h]

theorem fneg_eq (a : Int) : wordOf (Op.negFloat .f64 (bitsOf a)) = if nanB (bitsOf a) then 9221120237041090560 else bits .xor .i64 a (-9223372036854775808) := by
  unfold wordOf
  rw [nan_neg]
  have hb : bitsOf (-9223372036854775808) = 9223372036854775808 := by decide
  rw [bits_xor, hb, neg_bits]

set_option maxRecDepth 100000 in
set_option maxHeartbeats 2000000 in
theorem rone_neg (a : Int) (ha : Wd a) (w : World) : OneC 34 a 15 w := by
  unfold OneC
  rw [show oneV 34 a = (wrap64 (-a), 0) from rfl]
  clear ha
  go_enter Tryd.func15, Tryd.ntmps15
  go_wp2
  all_goals go_ret2
  all_goals exact ⟨rfl, 0, rfl⟩

set_option maxRecDepth 100000 in
set_option maxHeartbeats 2000000 in
theorem rone_not (a : Int) (ha : Wd a) (w : World) : OneC 35 a 15 w := by
  have hx := not_eq2 ha
  unfold OneC
  rw [show oneV 35 a = (bits .xor .i64 (-1) a, 0) from rfl]
  clear ha
  go_enter Tryd.func15, Tryd.ntmps15
  go_wp2
  all_goals go_ret2
  all_goals exact ⟨by first | rfl | (rw [← hx]; rfl), 0, rfl⟩

set_option maxRecDepth 100000 in
set_option maxHeartbeats 2000000 in
theorem rone_fneg (a : Int) (ha : Wd a) (w : World) : OneC 42 a 15 w := by
  have HN : Hid (∀ W, Calls Tryd.prog 19 #[.int .i64 a] W fun e w' => e = .returned (.bool (nanB (bitsOf a))) ∧ w' = W) := fun W => by
    have := nan_any a W
    rw [nanW_eq] at this
    exact this
  unfold OneC
  rw [show oneV 42 a = (wordOf (Op.negFloat .f64 (bitsOf a)), 0) from rfl]
  rw [fneg_eq]
  clear ha
  cases hn : nanB (bitsOf a)
  · rw [hn] at HN
    rw [if_neg Bool.false_ne_true]
    go_enter Tryd.func15, Tryd.ntmps15
    go_wp2_with fail
    refine (HN.out _).mono ?_
    rintro e w' ⟨rfl, rfl⟩
    go_wp2
    all_goals go_ret2
    all_goals exact ⟨rfl, 0, rfl⟩
  · rw [hn] at HN
    rw [if_pos rfl]
    go_enter Tryd.func15, Tryd.ntmps15
    go_wp2_with fail
    refine (HN.out _).mono ?_
    rintro e w' ⟨rfl, rfl⟩
    go_wp2
    all_goals go_ret2
    all_goals exact ⟨rfl, 0, rfl⟩

set_option maxRecDepth 100000 in
set_option maxHeartbeats 2000000 in
theorem rone_froot (a : Int) (ha : Wd a) (w : World) : OneC 43 a 15 w := by
  have HA : Hid (∀ W, Calls Tryd.prog 21 #[.int .i64 a] W fun e w' => e = .returned (.float .f64 (bitsOf a)) ∧ w' = W) := fun W => rfloat_any a W
  have HS : Hid (∀ x W, Calls Tryd.prog 40 #[.float .f64 x] W fun e w' => ∃ r, e = .returned (.float .f64 r) ∧ SRes x r ∧ ∃ q, w' = W.drewN q) := fun x W => sqrt_any x W
  have HW : Hid (∀ x r W, SRes x r → Calls Tryd.prog 42 #[.float .f64 r] W fun e w' => e = .returned (.int .i64 (srW x)) ∧ w' = W) := fun x r W h => by
    have := rword_any r h.1 W
    rw [sres_word h] at this
    exact this
  unfold OneC
  rw [show oneV 43 a = (srW (bitsOf a), 0) from rfl]
  clear ha
  generalize bitsOf a = x at *
  go_enter Tryd.func15, Tryd.ntmps15
  go_wp2_with fail
  refine (HA.out _).mono ?_
  rintro e w' ⟨rfl, rfl⟩
  go_wp2_with fail
  refine (HS.out _ _).mono ?_
  rintro e w' ⟨r, rfl, hs, q2, rfl⟩
  have HQ := hid_of hs
  clear hs
  go_wp2_with fail
  refine (HW.out x r _ HQ.out).mono ?_
  rintro e w' ⟨rfl, rfl⟩
  go_wp2
  all_goals go_ret2
  all_goals exact ⟨rfl, _, rfl⟩

set_option maxRecDepth 100000 in
set_option maxHeartbeats 2000000 in
theorem rone_tof (a : Int) (ha : Wd a) (w : World) : OneC 44 a 15 w := by
  have HT : Hid (∀ W, Calls Tryd.prog 43 #[.int .i64 a] W fun e w' => e = .returned (.int .i64 (wordOf (floatOfInt .f64 a))) ∧ w' = W) := fun W => tofloat_any a ha W
  unfold OneC
  rw [show oneV 44 a = (wordOf (floatOfInt .f64 a), 0) from rfl]
  clear ha
  go_enter Tryd.func15, Tryd.ntmps15
  go_wp2_with fail
  refine (HT.out _).mono ?_
  rintro e w' ⟨rfl, rfl⟩
  go_wp2
  all_goals go_ret2
  all_goals exact ⟨rfl, 0, rfl⟩

set_option maxRecDepth 100000 in
set_option maxHeartbeats 2000000 in
theorem rone_toi (a : Int) (ha : Wd a) (w : World) : OneC 45 a 15 w := by
  have HT : Hid (∀ W, Calls Tryd.prog 44 #[.int .i64 a] W fun e w' => e = .returned (.tuple #[.int .i64 (tiV a).1, .int .i64 (tiV a).2]) ∧ w' = W) := fun W => toint_any a ha W
  unfold OneC
  rw [show oneV 45 a = ((tiV a).1, (tiV a).2) from rfl]
  generalize (tiV a).1 = v at *
  generalize (tiV a).2 = t at *
  clear ha
  go_enter Tryd.func15, Tryd.ntmps15
  go_wp2_with fail
  refine (HT.out _).mono ?_
  rintro e w' ⟨rfl, rfl⟩
  go_wp2
  all_goals go_ret2
  all_goals exact ⟨rfl, 0, rfl⟩

set_option maxRecDepth 100000 in
set_option maxHeartbeats 2000000 in
theorem rone_none (op a : Int) (h : hasB op 1 = false) (w : World) : OneC op a 15 w := by
  have h34 : (op == 34) = false := beq_eq_false_iff_ne.2 (by rintro rfl; exact absurd h (by decide))
  have h35 : (op == 35) = false := beq_eq_false_iff_ne.2 (by rintro rfl; exact absurd h (by decide))
  have h42 : (op == 42) = false := beq_eq_false_iff_ne.2 (by rintro rfl; exact absurd h (by decide))
  have h43 : (op == 43) = false := beq_eq_false_iff_ne.2 (by rintro rfl; exact absurd h (by decide))
  have h44 : (op == 44) = false := beq_eq_false_iff_ne.2 (by rintro rfl; exact absurd h (by decide))
  have h45 : (op == 45) = false := beq_eq_false_iff_ne.2 (by rintro rfl; exact absurd h (by decide))
  unfold OneC
  rw [oneV_none a h]
  clear h
  go_enter Tryd.func15, Tryd.ntmps15
  go_wp2
  all_goals go_ret2
  all_goals exact ⟨rfl, 0, rfl⟩

theorem ronee_any (op a : Int) (ha : Wd a) (w : World) : OneC op a 15 w := by
  cases h : hasB op 1
  · exact rone_none op a h w
  · rcases has1_out h with rfl | rfl | rfl | rfl | rfl | rfl
    · exact rone_neg a ha w
    · exact rone_not a ha w
    · exact rone_fneg a ha w
    · exact rone_froot a ha w
    · exact rone_tof a ha w
    · exact rone_toi a ha w

theorem hasB1_eq (op : Int) : hasB op 1 = ((op == 34 || op == 35) || (decide (42 ≤ op) && decide (op ≤ 45))) := by
  cases h : hasB op 1
  · have hk : ¬ ((op = 34 ∨ op = 35) ∨ (42 ≤ op ∧ op ≤ 45)) := by
      intro hc
      have : op = 34 ∨ op = 35 ∨ op = 42 ∨ op = 43 ∨ op = 44 ∨ op = 45 := by omega
      rcases this with rfl | rfl | rfl | rfl | rfl | rfl <;> exact absurd h (by decide)
    symm
    rw [Bool.eq_false_iff]
    simp only [ne_eq, Bool.or_eq_true, Bool.and_eq_true, decide_eq_true_eq, beq_iff_eq]
    exact hk
  · rcases has1_out h with rfl | rfl | rfl | rfl | rfl | rfl <;> rfl

set_option maxRecDepth 100000 in
set_option maxHeartbeats 2000000 in
theorem rhas1_any (op : Int) (w : World) :
    Calls Tryd.prog 17 #[.int .i64 op] w fun e w' => e = .returned (.bool (hasB op 1)) ∧ w' = w := by
  rw [hasB1_eq]
  obtain ⟨p1, g1⟩ : ∃ p, (op == 34) = p := ⟨_, rfl⟩
  obtain ⟨p2, g2⟩ : ∃ p, (op == 35) = p := ⟨_, rfl⟩
  obtain ⟨p3, g3⟩ : ∃ p, decide (42 ≤ op) = p := ⟨_, rfl⟩
  obtain ⟨p4, g4⟩ : ∃ p, decide (op ≤ 45) = p := ⟨_, rfl⟩
  rw [g1, g2, g3, g4]
  cases p1 <;> cases p2 <;> cases p3 <;> cases p4
  all_goals (
    go_enter Tryd.func17, Tryd.ntmps17
    go_wp2
    all_goals go_ret
    all_goals exact ⟨rfl, rfl⟩)
end Go.Proofs.YthiopkndbicmkaaDoor

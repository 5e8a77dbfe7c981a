/-
  The walk of CellExact.
-/
import Derived.Test.YthiopkndbicmkaaDoorWw
import Derived.Test.YthiopkndbicmkaaDoorFe
namespace Go.Proofs.YthiopkndbicmkaaDoor
open Go.RowKit Ieee
set_option linter.unusedVariables false
set_option linter.unusedSimpArgs false

theorem word_X (a : Int) : oneL 44 a = wrap64 (X a) := by
  unfold oneL
  rw [show oneV 44 a = (wordOf (floatOfInt .f64 a), 0) from rfl, if_pos rfl, X_tof]
  unfold wordOf
  rw [X_nan, if_neg Bool.false_ne_true]
theorem PX_abs (c : Int) (m : Nat) (h : c = m) : X c = PX false m := by
  subst h
  unfold X PX
  rw [decide_eq_false (by omega)]
  rfl
theorem L_fa (op : Int) (b : BinOp) (x y : Nat) (hx : x < 18446744073709551616) (hy : y < 18446744073709551616) (h : ∀ a c : Int, twoV op a c = (faW b (bitsOf a) (bitsOf c), 0)) (r : Nat) (hr : floatBits b .f64 x y = some r) : twoL op (wrap64 x) (wrap64 y) = wrap64 r := by
  unfold twoL
  rw [h, if_pos rfl, bits_wrap x hx, bits_wrap y hy]
  show faW b x y = _
  unfold faW
  rw [hr]
theorem oneV_45 (v : Int) : oneV 45 v = tiV v := rfl
theorem L_ti (x : Nat) (n : Int) (h : tiV (wrap64 x) = (n, 0)) : oneL 45 (wrap64 x) = n := by
  generalize wrap64 x = v at *
  unfold oneL
  rw [oneV_45, h]
  exact if_pos rfl
theorem L_root (x r : Nat) (hx : x < 18446744073709551616) (h : double.sqrt x = some r) : oneL 43 (wrap64 x) = wrap64 r := by
  unfold oneL
  rw [show oneV 43 (wrap64 x) = (srW (bitsOf (wrap64 x)), 0) from rfl, if_pos rfl, bits_wrap x hx]
  show srW x = _
  unfold srW
  rw [h]
theorem L_flt (a b : Int) (ha : a.natAbs < 9007199254740992) (hb : b.natAbs < 9007199254740992) : twoL 41 (wrap64 (X a)) (wrap64 (X b)) = twoL 32 a b := by
  unfold twoL
  rw [show twoV 41 (wrap64 (X a)) (wrap64 (X b)) = (oneW (fltB (bitsOf (wrap64 (X a))) (bitsOf (wrap64 (X b)))), 0) from rfl, show twoV 32 a b = (oneW (decide (a < b)), 0) from rfl, bits_wrap _ (X_lt a), bits_wrap _ (X_lt b), if_pos rfl, if_pos rfl]
  have h := order_lss (X a) (X b)
  rw [X_order a b ha hb] at h
  have h2 : fltB (X a) (X b) = decide (a < b) := by
    unfold fltB
    rw [← h]
    by_cases c : a < b
    · rw [decide_eq_true c, Int.compare_eq_lt.2 c]; rfl
    · rw [decide_eq_false c, beq_eq_false_iff_ne]
      exact fun e => c (Int.compare_eq_lt.1 (Option.some.inj e))
  rw [h2]
theorem L_feq (a b : Int) (ha : a.natAbs < 9007199254740992) (hb : b.natAbs < 9007199254740992) : twoL 40 (wrap64 (X a)) (wrap64 (X b)) = twoL 31 a b := by
  unfold twoL
  rw [show twoV 40 (wrap64 (X a)) (wrap64 (X b)) = (oneW (feqB (bitsOf (wrap64 (X a))) (bitsOf (wrap64 (X b)))), 0) from rfl, show twoV 31 a b = (oneW (a == b), 0) from rfl, bits_wrap _ (X_lt a), bits_wrap _ (X_lt b), if_pos rfl, if_pos rfl]
  have h := order_eql (X a) (X b)
  rw [X_order a b ha hb] at h
  have h2 : feqB (X a) (X b) = (a == b) := by
    unfold feqB
    rw [← h]
    by_cases c : a = b
    · subst c; rw [Int.compare_eq_eq.2 rfl]; simp
    · rw [show (a == b) = false by simpa using c, beq_eq_false_iff_ne]
      exact fun e => c (Int.compare_eq_eq.1 (Option.some.inj e))
  rw [h2]

/-- What the law asks of two whole numbers. -/
structure Exact (A B : Int) : Prop where
  i1 : oneL 45 (oneL 44 A) = A
  i2 : oneL 45 (twoL 36 (oneL 44 A) (oneL 44 B)) = A + B
  i3 : oneL 45 (twoL 37 (oneL 44 A) (oneL 44 B)) = A - B
  i4 : oneL 44 (A + B) = twoL 36 (oneL 44 A) (oneL 44 B)
  i5 : twoL 41 (oneL 44 A) (oneL 44 B) = twoL 32 A B
  i6 : twoL 40 (oneL 44 A) (oneL 44 B) = twoL 31 A B

theorem exact_sum (A B : Int) (ha : A.natAbs < 4503599627370496) (hb : B.natAbs < 4503599627370496) : Exact A B := by
  have e1 := L_fa 36 .add (X A) (X B) (X_lt A) (X_lt B) (fun _ _ => rfl) _ (X_add A B (by omega) (by omega))
  have e2 := L_fa 37 .sub (X A) (X B) (X_lt A) (X_lt B) (fun _ _ => rfl) _ (X_sub A B (by omega) (by omega))
  constructor
  · rw [word_X]; exact L_ti _ _ (X_ti A (by omega))
  · rw [word_X, word_X, e1]; exact L_ti _ _ (X_ti _ (by omega))
  · rw [word_X, word_X, e2]; exact L_ti _ _ (X_ti _ (by omega))
  · rw [word_X, word_X, word_X, e1]
  · rw [word_X, word_X]; exact L_flt A B (by omega) (by omega)
  · rw [word_X, word_X]; exact L_feq A B (by omega) (by omega)

theorem mul_small {x y : Nat} (hx : x < 67108864) (hy : y < 67108864) : x * y < 4503599627370496 := by
  have h1 : x * y ≤ x * 67108864 := Nat.mul_le_mul_left x (by omega)
  omega

theorem sign_mul (c d : Int) : (if (decide (c < 0) ^^ decide (d < 0)) = true then -((c.natAbs * d.natAbs : Nat) : Int) else ((c.natAbs * d.natAbs : Nat) : Int)) = c * d := by
  rw [← Int.natAbs_mul]
  by_cases hc : c < 0 <;> by_cases hd : d < 0
  · rw [decide_eq_true hc, decide_eq_true hd]
    have := Int.mul_nonneg_of_nonpos_of_nonpos (show c ≤ 0 by omega) (show d ≤ 0 by omega)
    simp; omega
  · rw [decide_eq_true hc, decide_eq_false hd]
    have := Int.mul_nonpos_of_nonpos_of_nonneg (show c ≤ 0 by omega) (show 0 ≤ d by omega)
    simp; omega
  · rw [decide_eq_false hc, decide_eq_true hd]
    have := Int.mul_nonpos_of_nonneg_of_nonpos (show 0 ≤ c by omega) (show d ≤ 0 by omega)
    simp; omega
  · rw [decide_eq_false hc, decide_eq_false hd]
    have := Int.mul_nonneg (show 0 ≤ c by omega) (show 0 ≤ d by omega)
    simp; omega

theorem exact_mul (c d : Int) (hc : c.natAbs < 67108864) (hd : d.natAbs < 67108864) : oneL 45 (twoL 38 (oneL 44 c) (oneL 44 d)) = c * d ∧ (d ≠ 0 → oneL 45 (twoL 39 (twoL 38 (oneL 44 c) (oneL 44 d)) (oneL 44 d)) = c) := by
  have hm := mul_small hc hd
  have e1 := L_fa 38 .mul (X c) (X d) (X_lt c) (X_lt d) (fun _ _ => rfl) _ (X_mul c d (by omega) (by omega))
  constructor
  · rw [word_X, word_X, e1]
    refine L_ti _ _ ?_
    rw [PX_ti _ _ (by omega), sign_mul]
  · intro h0
    have e2 := L_fa 39 .quo _ (X d) (PX_lt (decide (c < 0) ^^ decide (d < 0)) (c.natAbs * d.natAbs)) (X_lt d) (fun _ _ => rfl) _ (X_div (decide (c < 0) ^^ decide (d < 0)) c.natAbs d h0 (by omega) (by omega))
    rw [word_X, word_X, e1, e2]
    refine L_ti _ _ ?_
    rw [PX_ti _ _ (by omega), Bool.xor_assoc, Bool.xor_self, Bool.xor_false, abs_if]

theorem exact_root (c : Int) (h0 : 0 ≤ c) (hc : c.natAbs < 67108864) : oneL 43 (oneL 44 (c * c)) = oneL 44 c := by
  obtain ⟨m, rfl⟩ : ∃ m : Nat, c = (m : Int) := ⟨c.toNat, by omega⟩
  have hm : m < 67108864 := by omega
  have h2 := mul_small hm hm
  rw [word_X, word_X, PX_abs ((m : Int) * (m : Int)) (m * m) (by simp), PX_abs (m : Int) m rfl]
  exact L_root _ _ (PX_lt _ _) (X_sqrt m (by omega))

theorem wd_one (op a : Int) (h : op = 44) : Wd (oneL op a) := by subst h; rw [word_X]; exact wd_wrap _
theorem wd_fa (op a b : Int) (h : op = 36 ∨ op = 37 ∨ op = 38 ∨ op = 39) : Wd (twoL op a b) := by
  have key : ∀ (bo : BinOp) (x y : Nat), Wd (faW bo x y) := fun bo x y => by
    unfold faW
    cases floatBits bo .f64 x y
    · constructor <;> decide
    · exact wd_wrap _
  rcases h with rfl | rfl | rfl | rfl
  · exact key .add (bitsOf a) (bitsOf b)
  · exact key .sub (bitsOf a) (bitsOf b)
  · exact key .mul (bitsOf a) (bitsOf b)
  · exact key .quo (bitsOf a) (bitsOf b)

theorem tmod_abs (a k : Int) (hk : 0 < k) : (a.tmod k).natAbs < k.natAbs := by
  rw [Int.natAbs_tmod]; exact Nat.mod_lt _ (by omega)

set_option maxRecDepth 100000 in
set_option maxHeartbeats 1000000 in
theorem within_any (a : Int) (w : World) : Calls Tryd.prog 25 #[.int .i64 a] w fun e w' => e = .returned (.int .i64 (a.tmod 4503599627370496)) ∧ w' = w := by
  go_enter Tryd.func25, Tryd.ntmps25
  go_wp2
  go_ret
  exact ⟨rfl, rfl⟩

set_option maxRecDepth 100000 in
set_option maxHeartbeats 4000000 in
theorem cellExact_walk (a0 b0 : Int) (ha : Wd a0) (hb : Wd b0) (w : World) (hL : Laid w) : Calls Tryd.prog 8 #[.int .i64 a0, .int .i64 b0] w (Gone w) := by
  have HT : Hid (∀ op a b n, Calls Tryd.prog 22 #[.int .i64 op, .int .i64 a, .int .i64 b] (w.drewN n) fun e w' => e = .returned (.int .i64 (twoL op a b)) ∧ ∃ q, w' = w.drewN q) := fun op a b n => law_two_n w hL op a b n
  have HH : Hid (∀ n, Calls Tryd.prog 13 #[] (w.drewN n) fun e w' => e = .returned (.bool true) ∧ ∃ q, w' = w.drewN q) := fun n => head_n w hL n
  have HA0 : Hid (∀ W, Calls Tryd.prog 25 #[.int .i64 a0] W fun e w' => e = .returned (.int .i64 (a0.tmod 4503599627370496)) ∧ w' = W) := fun W => within_any a0 W
  have HB0 : Hid (∀ W, Calls Tryd.prog 25 #[.int .i64 b0] W fun e w' => e = .returned (.int .i64 (b0.tmod 4503599627370496)) ∧ w' = W) := fun W => within_any b0 W
  have hA := tmod_abs a0 4503599627370496 (by decide)
  have hB := tmod_abs b0 4503599627370496 (by decide)
  generalize a0.tmod 4503599627370496 = A at *
  generalize b0.tmod 4503599627370496 = B at *
  have hA' : A.natAbs < 4503599627370496 := hA
  have hB' : B.natAbs < 4503599627370496 := hB
  clear hA hB ha hb
  have hc := tmod_abs A 67108864 (by decide)
  have hd := tmod_abs B 67108864 (by decide)
  obtain ⟨c, hcc⟩ : ∃ c, A.tmod 67108864 = c := ⟨_, rfl⟩
  obtain ⟨d, hdd⟩ : ∃ d, B.tmod 67108864 = d := ⟨_, rfl⟩
  rw [hcc] at hc
  rw [hdd] at hd
  have hc' : c.natAbs < 67108864 := hc
  have hd' : d.natAbs < 67108864 := hd
  clear hc hd
  obtain ⟨i1, i2, i3, i4, i5, i6⟩ := exact_sum A B hA' hB'
  obtain ⟨i7, i8⟩ := exact_mul c d hc' hd'
  have hcd : (c * d).natAbs < 4503599627370496 := by rw [Int.natAbs_mul]; exact mul_small hc' hd'
  have hcs : (c * c).natAbs < 4503599627370496 := by rw [Int.natAbs_mul]; exact mul_small hc' hc'
  have pcd : wrap64 (c * d) = c * d := IntWalk.wrap64_in _ (by omega)
  have pcc : wrap64 (c * c) = c * c := IntWalk.wrap64_in _ (by omega)
  have pcc2 : wrap64 (-c * -c) = c * c := by rw [Int.neg_mul_neg]; exact pcc
  obtain ⟨C, hC0, hC1, hC2⟩ : ∃ C : Int, 0 ≤ C ∧ (c < 0 → C = -c) ∧ (¬ c < 0 → C = c) := ⟨if c < 0 then -c else c, by split <;> omega, fun h => by rw [if_pos h], fun h => by rw [if_neg h]⟩
  have hCa : C.natAbs < 67108864 := by
    by_cases h : c < 0
    · have := hC1 h; omega
    · have := hC2 h; omega
  have hCC : C * C = c * c := by
    by_cases h : c < 0
    · rw [hC1 h, Int.neg_mul_neg]
    · rw [hC2 h]
  have i9 := exact_root C hC0 hCa
  rw [hCC] at i9
  have O1 : Hid (∀ n, Calls Tryd.prog 23 #[.int .i64 44, .int .i64 (A)] (w.drewN n) fun e w' => e = .returned (.int .i64 (oneL 44 A)) ∧ ∃ q, w' = w.drewN q) := fun n => by
    have h := law_one_n w hL 44 (A) (by constructor <;> omega) n
    exact h
  have O2 : Hid (∀ n, Calls Tryd.prog 23 #[.int .i64 44, .int .i64 (B)] (w.drewN n) fun e w' => e = .returned (.int .i64 (oneL 44 B)) ∧ ∃ q, w' = w.drewN q) := fun n => by
    have h := law_one_n w hL 44 (B) (by constructor <;> omega) n
    exact h
  have O3 : Hid (∀ n, Calls Tryd.prog 23 #[.int .i64 45, .int .i64 (oneL 44 A)] (w.drewN n) fun e w' => e = .returned (.int .i64 (A)) ∧ ∃ q, w' = w.drewN q) := fun n => by
    have h := law_one_n w hL 45 (oneL 44 A) (wd_one 44 _ rfl) n
    rw [i1] at h
    exact h
  have O4 : Hid (∀ n, Calls Tryd.prog 23 #[.int .i64 45, .int .i64 (twoL 36 (oneL 44 A) (oneL 44 B))] (w.drewN n) fun e w' => e = .returned (.int .i64 (A + B)) ∧ ∃ q, w' = w.drewN q) := fun n => by
    have h := law_one_n w hL 45 (twoL 36 (oneL 44 A) (oneL 44 B)) (wd_fa 36 _ _ (by simp)) n
    rw [i2] at h
    exact h
  have O5 : Hid (∀ n, Calls Tryd.prog 23 #[.int .i64 45, .int .i64 (twoL 37 (oneL 44 A) (oneL 44 B))] (w.drewN n) fun e w' => e = .returned (.int .i64 (A - B)) ∧ ∃ q, w' = w.drewN q) := fun n => by
    have h := law_one_n w hL 45 (twoL 37 (oneL 44 A) (oneL 44 B)) (wd_fa 37 _ _ (by simp)) n
    rw [i3] at h
    exact h
  have O6 : Hid (∀ n, Calls Tryd.prog 23 #[.int .i64 44, .int .i64 (A + B)] (w.drewN n) fun e w' => e = .returned (.int .i64 (twoL 36 (oneL 44 A) (oneL 44 B))) ∧ ∃ q, w' = w.drewN q) := fun n => by
    have h := law_one_n w hL 44 (A + B) (by constructor <;> omega) n
    rw [i4] at h
    exact h
  have O7 : Hid (∀ n, Calls Tryd.prog 23 #[.int .i64 44, .int .i64 (c)] (w.drewN n) fun e w' => e = .returned (.int .i64 (oneL 44 c)) ∧ ∃ q, w' = w.drewN q) := fun n => by
    have h := law_one_n w hL 44 (c) (by constructor <;> omega) n
    exact h
  have O8 : Hid (∀ n, Calls Tryd.prog 23 #[.int .i64 44, .int .i64 (d)] (w.drewN n) fun e w' => e = .returned (.int .i64 (oneL 44 d)) ∧ ∃ q, w' = w.drewN q) := fun n => by
    have h := law_one_n w hL 44 (d) (by constructor <;> omega) n
    exact h
  have O9 : Hid (∀ n, Calls Tryd.prog 23 #[.int .i64 45, .int .i64 (twoL 38 (oneL 44 c) (oneL 44 d))] (w.drewN n) fun e w' => e = .returned (.int .i64 (c * d)) ∧ ∃ q, w' = w.drewN q) := fun n => by
    have h := law_one_n w hL 45 (twoL 38 (oneL 44 c) (oneL 44 d)) (wd_fa 38 _ _ (by simp)) n
    rw [i7] at h
    exact h
  have Oa : Hid (d ≠ 0 → ∀ n, Calls Tryd.prog 23 #[.int .i64 45, .int .i64 (twoL 39 (twoL 38 (oneL 44 c) (oneL 44 d)) (oneL 44 d))] (w.drewN n) fun e w' => e = .returned (.int .i64 c) ∧ ∃ q, w' = w.drewN q) := fun h0 n => by
    have h := law_one_n w hL 45 _ (wd_fa 39 (twoL 38 (oneL 44 c) (oneL 44 d)) (oneL 44 d) (by simp)) n
    rw [i8 h0] at h
    exact h
  have Ob : Hid (∀ n, Calls Tryd.prog 23 #[.int .i64 44, .int .i64 (c * c)] (w.drewN n) fun e w' => e = .returned (.int .i64 (oneL 44 (c * c))) ∧ ∃ q, w' = w.drewN q) := fun n => by
    have h := law_one_n w hL 44 (c * c) (by constructor <;> omega) n
    exact h
  have Oc : Hid (∀ n, Calls Tryd.prog 23 #[.int .i64 43, .int .i64 (oneL 44 (c * c))] (w.drewN n) fun e w' => e = .returned (.int .i64 (oneL 44 C)) ∧ ∃ q, w' = w.drewN q) := fun n => by
    have h := law_one_n w hL 43 (oneL 44 (c * c)) (wd_one 44 _ rfl) n
    rw [i9] at h
    exact h
  have Od : Hid (∀ n, Calls Tryd.prog 23 #[.int .i64 44, .int .i64 (C)] (w.drewN n) fun e w' => e = .returned (.int .i64 (oneL 44 C)) ∧ ∃ q, w' = w.drewN q) := fun n => by
    have h := law_one_n w hL 44 (C) (by constructor <;> omega) n
    exact h
  have bA1 : A ≤ 4503599627370495 := by omega
  have bA0 : -4503599627370495 ≤ A := by omega
  have bB1 : B ≤ 4503599627370495 := by omega
  have bB0 : -4503599627370495 ≤ B := by omega
  have bc1 : c ≤ 67108863 := by omega
  have bc0 : -67108863 ≤ c := by omega
  clear i1 i2 i3 i4 i7 i8 i9 hCC hC0 hCa hcd hcs hA' hB' hc' hd' hL
  generalize oneL 44 A = x at *
  generalize oneL 44 B = y at *
  obtain ⟨l, hl⟩ : ∃ l, twoL 32 A B = l := ⟨_, rfl⟩
  obtain ⟨e0, he0⟩ : ∃ l, twoL 31 A B = l := ⟨_, rfl⟩
  rw [hl] at i5
  rw [he0] at i6
  by_cases hz : d = 0
  · have hz1 : (d == 0) = true := by simpa using hz
    have hz2 : (d != 0) = false := by simpa using hz
    by_cases hs : c < 0
    · have hs1 := hC1 hs
      have hs2 : decide (c < 0) = true := decide_eq_true hs
      subst hs1
      clear hC1 hC2 hz
      go_enter Tryd.func8, Tryd.ntmps8
      go_wp2_with fail
      refine (HA0.out _).mono ?_
      rintro e w' ⟨rfl, hw⟩
      subst hw
      go_wp2_with fail
      refine (HB0.out _).mono ?_
      rintro e w' ⟨rfl, hw⟩
      subst hw
      go_wp2_with fail
      refine (O1.out 0).mono ?_
      rintro e w' ⟨rfl, q, rfl⟩
      go_wp2_with fail
      refine (O2.out _).mono ?_
      rintro e w' ⟨rfl, q, rfl⟩
      go_wp2_with fail
      refine (O3.out _).mono ?_
      rintro e w' ⟨rfl, q, rfl⟩
      go_wp2_with fail
      refine (HT.out _ _ _ _).mono ?_
      rintro e w' ⟨rfl, q, rfl⟩
      go_wp2_with fail
      refine (O4.out _).mono ?_
      rintro e w' ⟨rfl, q, rfl⟩
      go_wp2_with fail
      refine (HT.out _ _ _ _).mono ?_
      rintro e w' ⟨rfl, q, rfl⟩
      go_wp2_with fail
      refine (O5.out _).mono ?_
      rintro e w' ⟨rfl, q, rfl⟩
      go_wp2_with fail
      refine (HT.out _ _ _ _).mono ?_
      rintro e w' ⟨rfl, q, rfl⟩
      go_wp2_with fail
      refine (O6.out _).mono ?_
      rintro e w' ⟨rfl, q, rfl⟩
      go_wp2_with fail
      refine (HT.out _ _ _ _).mono ?_
      rintro e w' ⟨rfl, q, rfl⟩
      go_wp2_with fail
      refine (HT.out _ _ _ _).mono ?_
      rintro e w' ⟨rfl, q, rfl⟩
      go_wp2_with fail
      refine (HT.out _ _ _ _).mono ?_
      rintro e w' ⟨rfl, q, rfl⟩
      go_wp2_with fail
      refine (HT.out _ _ _ _).mono ?_
      rintro e w' ⟨rfl, q, rfl⟩
      go_wp2_with fail
      refine (O7.out _).mono ?_
      rintro e w' ⟨rfl, q, rfl⟩
      go_wp2_with fail
      refine (O8.out _).mono ?_
      rintro e w' ⟨rfl, q, rfl⟩
      go_wp2_with fail
      refine (HT.out _ _ _ _).mono ?_
      rintro e w' ⟨rfl, q, rfl⟩
      go_wp2_with fail
      refine (O9.out _).mono ?_
      rintro e w' ⟨rfl, q, rfl⟩
      go_wp2_with fail
      refine (Ob.out _).mono ?_
      rintro e w' ⟨rfl, q, rfl⟩
      go_wp2_with fail
      refine (Oc.out _).mono ?_
      rintro e w' ⟨rfl, q, rfl⟩
      go_wp2_with fail
      refine (Od.out _).mono ?_
      rintro e w' ⟨rfl, q, rfl⟩
      go_wp2_with fail
      refine (HH.out _).mono ?_
      rintro e w' ⟨rfl, q, rfl⟩
      go_wp2
      all_goals go_ret
      all_goals exact ⟨rfl, _, rfl⟩
    · have hs1 := hC2 hs
      have hs2 : decide (c < 0) = false := decide_eq_false hs
      subst hs1
      clear hC1 hC2 hz
      go_enter Tryd.func8, Tryd.ntmps8
      go_wp2_with fail
      refine (HA0.out _).mono ?_
      rintro e w' ⟨rfl, hw⟩
      subst hw
      go_wp2_with fail
      refine (HB0.out _).mono ?_
      rintro e w' ⟨rfl, hw⟩
      subst hw
      go_wp2_with fail
      refine (O1.out 0).mono ?_
      rintro e w' ⟨rfl, q, rfl⟩
      go_wp2_with fail
      refine (O2.out _).mono ?_
      rintro e w' ⟨rfl, q, rfl⟩
      go_wp2_with fail
      refine (O3.out _).mono ?_
      rintro e w' ⟨rfl, q, rfl⟩
      go_wp2_with fail
      refine (HT.out _ _ _ _).mono ?_
      rintro e w' ⟨rfl, q, rfl⟩
      go_wp2_with fail
      refine (O4.out _).mono ?_
      rintro e w' ⟨rfl, q, rfl⟩
      go_wp2_with fail
      refine (HT.out _ _ _ _).mono ?_
      rintro e w' ⟨rfl, q, rfl⟩
      go_wp2_with fail
      refine (O5.out _).mono ?_
      rintro e w' ⟨rfl, q, rfl⟩
      go_wp2_with fail
      refine (HT.out _ _ _ _).mono ?_
      rintro e w' ⟨rfl, q, rfl⟩
      go_wp2_with fail
      refine (O6.out _).mono ?_
      rintro e w' ⟨rfl, q, rfl⟩
      go_wp2_with fail
      refine (HT.out _ _ _ _).mono ?_
      rintro e w' ⟨rfl, q, rfl⟩
      go_wp2_with fail
      refine (HT.out _ _ _ _).mono ?_
      rintro e w' ⟨rfl, q, rfl⟩
      go_wp2_with fail
      refine (HT.out _ _ _ _).mono ?_
      rintro e w' ⟨rfl, q, rfl⟩
      go_wp2_with fail
      refine (HT.out _ _ _ _).mono ?_
      rintro e w' ⟨rfl, q, rfl⟩
      go_wp2_with fail
      refine (O7.out _).mono ?_
      rintro e w' ⟨rfl, q, rfl⟩
      go_wp2_with fail
      refine (O8.out _).mono ?_
      rintro e w' ⟨rfl, q, rfl⟩
      go_wp2_with fail
      refine (HT.out _ _ _ _).mono ?_
      rintro e w' ⟨rfl, q, rfl⟩
      go_wp2_with fail
      refine (O9.out _).mono ?_
      rintro e w' ⟨rfl, q, rfl⟩
      go_wp2_with fail
      refine (Ob.out _).mono ?_
      rintro e w' ⟨rfl, q, rfl⟩
      go_wp2_with fail
      refine (Oc.out _).mono ?_
      rintro e w' ⟨rfl, q, rfl⟩
      go_wp2_with fail
      refine (Od.out _).mono ?_
      rintro e w' ⟨rfl, q, rfl⟩
      go_wp2_with fail
      refine (HH.out _).mono ?_
      rintro e w' ⟨rfl, q, rfl⟩
      go_wp2
      all_goals go_ret
      all_goals exact ⟨rfl, _, rfl⟩
  · have hz1 : (d == 0) = false := by simpa using hz
    have hz2 : (d != 0) = true := by simpa using hz
    have Oa' := hid_of (Oa.out hz)
    by_cases hs : c < 0
    · have hs1 := hC1 hs
      have hs2 : decide (c < 0) = true := decide_eq_true hs
      subst hs1
      clear hC1 hC2 hz Oa
      go_enter Tryd.func8, Tryd.ntmps8
      go_wp2_with fail
      refine (HA0.out _).mono ?_
      rintro e w' ⟨rfl, hw⟩
      subst hw
      go_wp2_with fail
      refine (HB0.out _).mono ?_
      rintro e w' ⟨rfl, hw⟩
      subst hw
      go_wp2_with fail
      refine (O1.out 0).mono ?_
      rintro e w' ⟨rfl, q, rfl⟩
      go_wp2_with fail
      refine (O2.out _).mono ?_
      rintro e w' ⟨rfl, q, rfl⟩
      go_wp2_with fail
      refine (O3.out _).mono ?_
      rintro e w' ⟨rfl, q, rfl⟩
      go_wp2_with fail
      refine (HT.out _ _ _ _).mono ?_
      rintro e w' ⟨rfl, q, rfl⟩
      go_wp2_with fail
      refine (O4.out _).mono ?_
      rintro e w' ⟨rfl, q, rfl⟩
      go_wp2_with fail
      refine (HT.out _ _ _ _).mono ?_
      rintro e w' ⟨rfl, q, rfl⟩
      go_wp2_with fail
      refine (O5.out _).mono ?_
      rintro e w' ⟨rfl, q, rfl⟩
      go_wp2_with fail
      refine (HT.out _ _ _ _).mono ?_
      rintro e w' ⟨rfl, q, rfl⟩
      go_wp2_with fail
      refine (O6.out _).mono ?_
      rintro e w' ⟨rfl, q, rfl⟩
      go_wp2_with fail
      refine (HT.out _ _ _ _).mono ?_
      rintro e w' ⟨rfl, q, rfl⟩
      go_wp2_with fail
      refine (HT.out _ _ _ _).mono ?_
      rintro e w' ⟨rfl, q, rfl⟩
      go_wp2_with fail
      refine (HT.out _ _ _ _).mono ?_
      rintro e w' ⟨rfl, q, rfl⟩
      go_wp2_with fail
      refine (HT.out _ _ _ _).mono ?_
      rintro e w' ⟨rfl, q, rfl⟩
      go_wp2_with fail
      refine (O7.out _).mono ?_
      rintro e w' ⟨rfl, q, rfl⟩
      go_wp2_with fail
      refine (O8.out _).mono ?_
      rintro e w' ⟨rfl, q, rfl⟩
      go_wp2_with fail
      refine (HT.out _ _ _ _).mono ?_
      rintro e w' ⟨rfl, q, rfl⟩
      go_wp2_with fail
      refine (O9.out _).mono ?_
      rintro e w' ⟨rfl, q, rfl⟩
      go_wp2_with fail
      refine (O8.out _).mono ?_
      rintro e w' ⟨rfl, q, rfl⟩
      go_wp2_with fail
      refine (HT.out _ _ _ _).mono ?_
      rintro e w' ⟨rfl, q, rfl⟩
      go_wp2_with fail
      refine (Oa'.out _).mono ?_
      rintro e w' ⟨rfl, q, rfl⟩
      go_wp2_with fail
      refine (Ob.out _).mono ?_
      rintro e w' ⟨rfl, q, rfl⟩
      go_wp2_with fail
      refine (Oc.out _).mono ?_
      rintro e w' ⟨rfl, q, rfl⟩
      go_wp2_with fail
      refine (Od.out _).mono ?_
      rintro e w' ⟨rfl, q, rfl⟩
      go_wp2_with fail
      refine (HH.out _).mono ?_
      rintro e w' ⟨rfl, q, rfl⟩
      go_wp2
      all_goals go_ret
      all_goals exact ⟨rfl, _, rfl⟩
    · have hs1 := hC2 hs
      have hs2 : decide (c < 0) = false := decide_eq_false hs
      subst hs1
      clear hC1 hC2 hz Oa
      go_enter Tryd.func8, Tryd.ntmps8
      go_wp2_with fail
      refine (HA0.out _).mono ?_
      rintro e w' ⟨rfl, hw⟩
      subst hw
      go_wp2_with fail
      refine (HB0.out _).mono ?_
      rintro e w' ⟨rfl, hw⟩
      subst hw
      go_wp2_with fail
      refine (O1.out 0).mono ?_
      rintro e w' ⟨rfl, q, rfl⟩
      go_wp2_with fail
      refine (O2.out _).mono ?_
      rintro e w' ⟨rfl, q, rfl⟩
      go_wp2_with fail
      refine (O3.out _).mono ?_
      rintro e w' ⟨rfl, q, rfl⟩
      go_wp2_with fail
      refine (HT.out _ _ _ _).mono ?_
      rintro e w' ⟨rfl, q, rfl⟩
      go_wp2_with fail
      refine (O4.out _).mono ?_
      rintro e w' ⟨rfl, q, rfl⟩
      go_wp2_with fail
      refine (HT.out _ _ _ _).mono ?_
      rintro e w' ⟨rfl, q, rfl⟩
      go_wp2_with fail
      refine (O5.out _).mono ?_
      rintro e w' ⟨rfl, q, rfl⟩
      go_wp2_with fail
      refine (HT.out _ _ _ _).mono ?_
      rintro e w' ⟨rfl, q, rfl⟩
      go_wp2_with fail
      refine (O6.out _).mono ?_
      rintro e w' ⟨rfl, q, rfl⟩
      go_wp2_with fail
      refine (HT.out _ _ _ _).mono ?_
      rintro e w' ⟨rfl, q, rfl⟩
      go_wp2_with fail
      refine (HT.out _ _ _ _).mono ?_
      rintro e w' ⟨rfl, q, rfl⟩
      go_wp2_with fail
      refine (HT.out _ _ _ _).mono ?_
      rintro e w' ⟨rfl, q, rfl⟩
      go_wp2_with fail
      refine (HT.out _ _ _ _).mono ?_
      rintro e w' ⟨rfl, q, rfl⟩
      go_wp2_with fail
      refine (O7.out _).mono ?_
      rintro e w' ⟨rfl, q, rfl⟩
      go_wp2_with fail
      refine (O8.out _).mono ?_
      rintro e w' ⟨rfl, q, rfl⟩
      go_wp2_with fail
      refine (HT.out _ _ _ _).mono ?_
      rintro e w' ⟨rfl, q, rfl⟩
      go_wp2_with fail
      refine (O9.out _).mono ?_
      rintro e w' ⟨rfl, q, rfl⟩
      go_wp2_with fail
      refine (O8.out _).mono ?_
      rintro e w' ⟨rfl, q, rfl⟩
      go_wp2_with fail
      refine (HT.out _ _ _ _).mono ?_
      rintro e w' ⟨rfl, q, rfl⟩
      go_wp2_with fail
      refine (Oa'.out _).mono ?_
      rintro e w' ⟨rfl, q, rfl⟩
      go_wp2_with fail
      refine (Ob.out _).mono ?_
      rintro e w' ⟨rfl, q, rfl⟩
      go_wp2_with fail
      refine (Oc.out _).mono ?_
      rintro e w' ⟨rfl, q, rfl⟩
      go_wp2_with fail
      refine (Od.out _).mono ?_
      rintro e w' ⟨rfl, q, rfl⟩
      go_wp2_with fail
      refine (HH.out _).mono ?_
      rintro e w' ⟨rfl, q, rfl⟩
      go_wp2
      all_goals go_ret
      all_goals exact ⟨rfl, _, rfl⟩
end Go.Proofs.YthiopkndbicmkaaDoor

/-
  The document's Two, all of it.
-/
import Derived.Test.YthiopkndbicmkaaDoorRa
import Derived.Test.YthiopkndbicmkaaDoorFb
namespace Go.Proofs.YthiopkndbicmkaaDoor
open Go.RowKit
set_option linter.unusedVariables false
set_option linter.unusedSimpArgs false

theorem bits_andNot (a b : Int) : bits .andNot .i64 a b = wrap64 (((BitVec.ofInt 64 a &&& ~~~ BitVec.ofInt 64 b).toNat : Nat) : Int) := by
  show IntKind.i64.wrap ((BitVec.ofInt 64 a &&& ~~~ BitVec.ofInt 64 b).toNat : Int) = _
  rw [IntWalk.i64_left]

theorem bits_xor2 (a b : Int) : bits .or .i64 (bits .andNot .i64 a b) (bits .andNot .i64 b a) = bits .xor .i64 a b := by
  have hx : bits .xor .i64 a b = wrap64 (((BitVec.ofInt 64 a ^^^ BitVec.ofInt 64 b).toNat : Nat) : Int) := by
    show IntKind.i64.wrap ((BitVec.ofInt 64 a ^^^ BitVec.ofInt 64 b).toNat : Int) = _
    rw [IntWalk.i64_left]
  rw [bits_or, bits_andNot, bits_andNot, hx]
  generalize BitVec.ofInt 64 a = x
  generalize BitVec.ofInt 64 b = y
  rw [bits_wrap _ (BitVec.isLt _), bits_wrap _ (BitVec.isLt _), ← BitVec.toNat_or]
  have e : (x &&& ~~~ y) ||| (y &&& ~~~ x) = x ^^^ y := by
    ext i hi
    simp
    cases x[i] <;> cases y[i] <;> rfl
  rw [e]

def divV (op a b : Int) : Int × Int := if op = 23 then (if b = 0 then (0, 5) else (wrap64 (a.tdiv b), 0)) else (if b = 0 then (0, 5) else (a.tmod b, 0))

theorem rest_wrap (a b : Int) (ha : Wd a) (hb : Wd b) (h0 : b ≠ 0) : wrap64 (a - wrap64 (b * wrap64 (a.tdiv b))) = a.tmod b := by
  obtain ⟨k, hk⟩ := wrap_cong (a.tdiv b)
  obtain ⟨j, hj⟩ := wrap_cong (b * wrap64 (a.tdiv b))
  have e := Int.tmod_add_mul_tdiv a b
  have hn := w_near (a := a) h0
  have h1 : wrap64 (a - wrap64 (b * wrap64 (a.tdiv b))) = wrap64 (a.tmod b) := by
    apply wrap_eq (k := -(b * k) - j)
    rw [hj, hk, Int.mul_add, ← Int.mul_assoc, Int.sub_mul, Int.neg_mul]
    omega
  rw [h1]
  obtain ⟨b0, b1⟩ := hb
  exact IntWalk.wrap64_in _ (by omega)

set_option maxRecDepth 100000 in
set_option maxHeartbeats 1000000 in
theorem divided_any (op a b : Int) (hop : op = 23 ∨ op = 24) (ha : Wd a) (hb : Wd b) (w : World) :
    Calls Tryd.prog 34 #[.int .i64 op, .int .i64 a, .int .i64 b] w fun e w' => e = .returned (.tuple #[.int .i64 (twoV op a b).1, .int .i64 (twoV op a b).2]) ∧ w' = w := by
  by_cases h0 : b = 0
  · subst h0
    rcases hop with rfl | rfl
    · rw [show twoV 23 a 0 = (0, 5) from rfl]
      go_enter Tryd.func34, Tryd.ntmps34
      go_wp2
      all_goals go_ret2
      all_goals exact ⟨rfl, rfl⟩
    · rw [show twoV 24 a 0 = (0, 5) from rfl]
      go_enter Tryd.func34, Tryd.ntmps34
      go_wp2
      all_goals go_ret2
      all_goals exact ⟨rfl, rfl⟩
  · have h0' : (b == 0) = false := by simpa using h0
    have hr := rest_wrap a b ha hb h0
    by_cases h1 : b = -1
    · subst h1
      have e1 : a.tdiv (-1) = -a := by simp [Int.tdiv_neg]
      rw [e1] at hr
      rcases hop with rfl | rfl
      · rw [show twoV 23 a (-1) = (wrap64 (a.tdiv (-1)), 0) from rfl, e1]
        clear ha hb hr
        go_enter Tryd.func34, Tryd.ntmps34
        go_wp2
        all_goals go_ret2
        all_goals exact ⟨rfl, rfl⟩
      · rw [show twoV 24 a (-1) = (a.tmod (-1), 0) from rfl]
        have HR := hid_of hr
        clear ha hb hr
        go_enter Tryd.func34, Tryd.ntmps34
        go_wp2
        all_goals go_ret2
        all_goals exact ⟨by rw [← HR.out]; first | rfl | (simp; done), rfl⟩
    · have h1' : (b == -1) = false := by simpa using h1
      have h1'' : (b != -1) = true := by simpa using h1
      rcases hop with rfl | rfl
      · rw [show twoV 23 a b = (wrap64 (a.tdiv b), 0) from by show (if b = 0 then _ else _) = _; rw [if_neg h0]]
        clear ha hb hr
        go_enter Tryd.func34, Tryd.ntmps34
        go_wp2
        all_goals go_ret2
        all_goals exact ⟨rfl, rfl⟩
      · rw [show twoV 24 a b = (a.tmod b, 0) from by show (if b = 0 then _ else _) = _; rw [if_neg h0]]
        have HR := hid_of hr
        clear ha hb hr
        go_enter Tryd.func34, Tryd.ntmps34
        go_wp2
        all_goals go_ret2
        all_goals exact ⟨by rw [← HR.out]; first | rfl | (simp; done), rfl⟩

set_option maxRecDepth 100000 in
set_option maxHeartbeats 1000000 in
theorem below_any (a b : Int) (ha : Wd a) (hb : Wd b) (w : World) :
    Calls Tryd.prog 37 #[.int .i64 a, .int .i64 b] w fun e w' => e = .returned (.bool (decide (bitsOf a < bitsOf b))) ∧ w' = w := by
  have x := bitsOf_eq a
  have y := bitsOf_eq b
  obtain ⟨a0, a1⟩ := ha
  obtain ⟨b0, b1⟩ := hb
  have HB : Hid ((decide (a < 0) = decide (b < 0) → decide (bitsOf a < bitsOf b) = decide (a < b)) ∧ (decide (a < 0) ≠ decide (b < 0) → decide (bitsOf a < bitsOf b) = decide (b < 0))) := by
    constructor
    · intro h
      apply decide_eq_decide.2
      have h' : (a < 0) ↔ (b < 0) := decide_eq_decide.1 h
      omega
    · intro h
      apply decide_eq_decide.2
      have h' : ¬ ((a < 0) ↔ (b < 0)) := fun e => h (decide_eq_decide.2 e)
      omega
  clear x y a0 a1 b0 b1
  generalize decide (bitsOf a < bitsOf b) = r at *
  by_cases c : decide (a < 0) = decide (b < 0)
  · have hr := HB.out.1 c
    subst hr
    have c1 : (decide (a < 0) == decide (b < 0)) = true := by simpa using c
    have c2 : (decide (a < 0) != decide (b < 0)) = false := by simpa using c
    clear HB c
    go_enter Tryd.func37, Tryd.ntmps37
    go_wp2
    all_goals go_ret
    all_goals exact ⟨rfl, rfl⟩
  · have hr := HB.out.2 c
    subst hr
    have c1 : (decide (a < 0) == decide (b < 0)) = false := by simpa using c
    have c2 : (decide (a < 0) != decide (b < 0)) = true := by simpa using c
    clear HB c
    go_enter Tryd.func37, Tryd.ntmps37
    go_wp2
    all_goals go_ret
    all_goals exact ⟨rfl, rfl⟩

set_option maxRecDepth 100000 in
set_option maxHeartbeats 1000000 in
theorem rank_any (a : Int) (ha : Wd a) (w : World) :
    Calls Tryd.prog 49 #[.int .i64 a] w fun e w' => e = .returned (.int .i64 (rankB (bitsOf a))) ∧ w' = w := by
  have hn := negB_bits ha
  have hr := rungB_bits a
  obtain ⟨a0, a1⟩ := ha
  unfold rankB
  rw [hn, hr]
  by_cases c : a < 0
  · rw [decide_eq_true c, if_pos rfl]
    have e : -((a % 9223372036854775808).toNat : Int) = -9223372036854775808 - a := by omega
    rw [e]
    have hw : wrap64 (-9223372036854775808 - a) = -9223372036854775808 - a := IntWalk.wrap64_in _ (by omega)
    have c' := decide_eq_true c
    clear hn hr e
    go_enter Tryd.func49, Tryd.ntmps49
    go_wp2
    all_goals go_ret
    all_goals exact ⟨rfl, rfl⟩
  · rw [decide_eq_false c, if_neg Bool.false_ne_true]
    have e : ((a % 9223372036854775808).toNat : Int) = a := by omega
    rw [e]
    have c' := decide_eq_false c
    clear hn hr e
    go_enter Tryd.func49, Tryd.ntmps49
    go_wp2
    all_goals go_ret
    all_goals exact ⟨rfl, rfl⟩

set_option maxRecDepth 100000 in
set_option maxHeartbeats 1000000 in
theorem rfl_fadd (a b : Int) (w : World) :
    Calls Tryd.prog 38 #[.int .i64 36, .int .i64 a, .int .i64 b] w fun e w' => e = .returned (.tuple #[.int .i64 (twoV 36 a b).1, .int .i64 (twoV 36 a b).2]) ∧ ∃ q, w' = w.drewN q := by
  have HA : Hid (∀ W, Calls Tryd.prog 21 #[.int .i64 a] W fun e w' => e = .returned (.float .f64 (bitsOf a)) ∧ w' = W) := fun W => rfloat_any a W
  have HB : Hid (∀ W, Calls Tryd.prog 21 #[.int .i64 b] W fun e w' => e = .returned (.float .f64 (bitsOf b)) ∧ w' = W) := fun W => rfloat_any b W
  rw [show twoV 36 a b = (faW .add (bitsOf a) (bitsOf b), 0) from rfl]
  generalize bitsOf a = x at *
  generalize bitsOf b = y at *
  obtain ⟨r, q, hr, hrun⟩ := run_float_res (P := Tryd.prog) w .add 35 x y (by simp)
  have HW : Hid (∀ W, Calls Tryd.prog 42 #[.float .f64 r] W fun e w' => e = .returned (.int .i64 (faW .add x y)) ∧ w' = W) := fun W => by
    have := rword_any r hr.1 W
    rw [fres_word hr] at this
    exact this
  clear hr
  generalize faW .add x y = z at *
  go_enter Tryd.func38, Tryd.ntmps38
  go_wp2_with fail
  refine (HA.out _).mono ?_
  rintro e w' ⟨rfl, rfl⟩
  go_wp2_with fail
  refine (HB.out _).mono ?_
  rintro e w' ⟨rfl, rfl⟩
  go_wp2_with fail
  refine (HW.out _).mono ?_
  rintro e w' ⟨rfl, rfl⟩
  go_wp2
  all_goals go_ret2
  all_goals exact ⟨rfl, _, rfl⟩

set_option maxRecDepth 100000 in
set_option maxHeartbeats 1000000 in
theorem rfl_fsub (a b : Int) (w : World) :
    Calls Tryd.prog 38 #[.int .i64 37, .int .i64 a, .int .i64 b] w fun e w' => e = .returned (.tuple #[.int .i64 (twoV 37 a b).1, .int .i64 (twoV 37 a b).2]) ∧ ∃ q, w' = w.drewN q := by
  have HA : Hid (∀ W, Calls Tryd.prog 21 #[.int .i64 a] W fun e w' => e = .returned (.float .f64 (bitsOf a)) ∧ w' = W) := fun W => rfloat_any a W
  have HB : Hid (∀ W, Calls Tryd.prog 21 #[.int .i64 b] W fun e w' => e = .returned (.float .f64 (bitsOf b)) ∧ w' = W) := fun W => rfloat_any b W
  rw [show twoV 37 a b = (faW .sub (bitsOf a) (bitsOf b), 0) from rfl]
  generalize bitsOf a = x at *
  generalize bitsOf b = y at *
  obtain ⟨r, q, hr, hrun⟩ := run_float_res (P := Tryd.prog) w .sub 35 x y (by simp)
  have HW : Hid (∀ W, Calls Tryd.prog 42 #[.float .f64 r] W fun e w' => e = .returned (.int .i64 (faW .sub x y)) ∧ w' = W) := fun W => by
    have := rword_any r hr.1 W
    rw [fres_word hr] at this
    exact this
  clear hr
  generalize faW .sub x y = z at *
  go_enter Tryd.func38, Tryd.ntmps38
  go_wp2_with fail
  refine (HA.out _).mono ?_
  rintro e w' ⟨rfl, rfl⟩
  go_wp2_with fail
  refine (HB.out _).mono ?_
  rintro e w' ⟨rfl, rfl⟩
  go_wp2_with fail
  refine (HW.out _).mono ?_
  rintro e w' ⟨rfl, rfl⟩
  go_wp2
  all_goals go_ret2
  all_goals exact ⟨rfl, _, rfl⟩

set_option maxRecDepth 100000 in
set_option maxHeartbeats 1000000 in
theorem rfl_fmul (a b : Int) (w : World) :
    Calls Tryd.prog 38 #[.int .i64 38, .int .i64 a, .int .i64 b] w fun e w' => e = .returned (.tuple #[.int .i64 (twoV 38 a b).1, .int .i64 (twoV 38 a b).2]) ∧ ∃ q, w' = w.drewN q := by
  have HA : Hid (∀ W, Calls Tryd.prog 21 #[.int .i64 a] W fun e w' => e = .returned (.float .f64 (bitsOf a)) ∧ w' = W) := fun W => rfloat_any a W
  have HB : Hid (∀ W, Calls Tryd.prog 21 #[.int .i64 b] W fun e w' => e = .returned (.float .f64 (bitsOf b)) ∧ w' = W) := fun W => rfloat_any b W
  rw [show twoV 38 a b = (faW .mul (bitsOf a) (bitsOf b), 0) from rfl]
  generalize bitsOf a = x at *
  generalize bitsOf b = y at *
  obtain ⟨r, q, hr, hrun⟩ := run_float_res (P := Tryd.prog) w .mul 35 x y (by simp)
  have HW : Hid (∀ W, Calls Tryd.prog 42 #[.float .f64 r] W fun e w' => e = .returned (.int .i64 (faW .mul x y)) ∧ w' = W) := fun W => by
    have := rword_any r hr.1 W
    rw [fres_word hr] at this
    exact this
  clear hr
  generalize faW .mul x y = z at *
  go_enter Tryd.func38, Tryd.ntmps38
  go_wp2_with fail
  refine (HA.out _).mono ?_
  rintro e w' ⟨rfl, rfl⟩
  go_wp2_with fail
  refine (HB.out _).mono ?_
  rintro e w' ⟨rfl, rfl⟩
  go_wp2_with fail
  refine (HW.out _).mono ?_
  rintro e w' ⟨rfl, rfl⟩
  go_wp2
  all_goals go_ret2
  all_goals exact ⟨rfl, _, rfl⟩

set_option maxRecDepth 100000 in
set_option maxHeartbeats 1000000 in
theorem rfl_fdiv (a b : Int) (w : World) :
    Calls Tryd.prog 38 #[.int .i64 39, .int .i64 a, .int .i64 b] w fun e w' => e = .returned (.tuple #[.int .i64 (twoV 39 a b).1, .int .i64 (twoV 39 a b).2]) ∧ ∃ q, w' = w.drewN q := by
  have HA : Hid (∀ W, Calls Tryd.prog 21 #[.int .i64 a] W fun e w' => e = .returned (.float .f64 (bitsOf a)) ∧ w' = W) := fun W => rfloat_any a W
  have HB : Hid (∀ W, Calls Tryd.prog 21 #[.int .i64 b] W fun e w' => e = .returned (.float .f64 (bitsOf b)) ∧ w' = W) := fun W => rfloat_any b W
  rw [show twoV 39 a b = (faW .quo (bitsOf a) (bitsOf b), 0) from rfl]
  generalize bitsOf a = x at *
  generalize bitsOf b = y at *
  obtain ⟨r, q, hr, hrun⟩ := run_float_res (P := Tryd.prog) w .quo 35 x y (by simp)
  have HW : Hid (∀ W, Calls Tryd.prog 42 #[.float .f64 r] W fun e w' => e = .returned (.int .i64 (faW .quo x y)) ∧ w' = W) := fun W => by
    have := rword_any r hr.1 W
    rw [fres_word hr] at this
    exact this
  clear hr
  generalize faW .quo x y = z at *
  go_enter Tryd.func38, Tryd.ntmps38
  go_wp2_with fail
  refine (HA.out _).mono ?_
  rintro e w' ⟨rfl, rfl⟩
  go_wp2_with fail
  refine (HB.out _).mono ?_
  rintro e w' ⟨rfl, rfl⟩
  go_wp2_with fail
  refine (HW.out _).mono ?_
  rintro e w' ⟨rfl, rfl⟩
  go_wp2
  all_goals go_ret2
  all_goals exact ⟨rfl, _, rfl⟩

set_option maxRecDepth 100000 in
set_option maxHeartbeats 1000000 in
theorem rfl_feq (a b : Int) (ha : Wd a) (hb : Wd b) (w : World) :
    Calls Tryd.prog 38 #[.int .i64 40, .int .i64 a, .int .i64 b] w fun e w' => e = .returned (.tuple #[.int .i64 (twoV 40 a b).1, .int .i64 (twoV 40 a b).2]) ∧ ∃ q, w' = w.drewN q := by
  have HA : Hid (∀ W, Calls Tryd.prog 21 #[.int .i64 a] W fun e w' => e = .returned (.float .f64 (bitsOf a)) ∧ w' = W) := fun W => rfloat_any a W
  have HB : Hid (∀ W, Calls Tryd.prog 21 #[.int .i64 b] W fun e w' => e = .returned (.float .f64 (bitsOf b)) ∧ w' = W) := fun W => rfloat_any b W
  have HNA : Hid (∀ W, Calls Tryd.prog 19 #[.int .i64 a] W fun e w' => e = .returned (.bool (nanB (bitsOf a))) ∧ w' = W) := fun W => by
    have := nan_any a W
    rw [nanW_eq] at this
    exact this
  have HNB : Hid (∀ W, Calls Tryd.prog 19 #[.int .i64 b] W fun e w' => e = .returned (.bool (nanB (bitsOf b))) ∧ w' = W) := fun W => by
    have := nan_any b W
    rw [nanW_eq] at this
    exact this
  have HRA : Hid (∀ W, Calls Tryd.prog 49 #[.int .i64 a] W fun e w' => e = .returned (.int .i64 (rankB (bitsOf a))) ∧ w' = W) := fun W => rank_any a ha W
  have HRB : Hid (∀ W, Calls Tryd.prog 49 #[.int .i64 b] W fun e w' => e = .returned (.int .i64 (rankB (bitsOf b))) ∧ w' = W) := fun W => rank_any b hb W
  have HO : Hid (∀ (c : Bool) W, Calls Tryd.prog 36 #[.bool c] W fun e w' => e = .returned (.int .i64 (oneW c)) ∧ w' = W) := fun c W => rone_any c W
  rw [show twoV 40 a b = (oneW (feqB (bitsOf a) (bitsOf b)), 0) from rfl]
  unfold feqB
  clear ha hb
  generalize bitsOf a = x at *
  generalize bitsOf b = y at *
  cases hx : nanB x
  · cases hy : nanB y
    · rw [hx] at HNA
      rw [hy] at HNB
      simp only [Bool.not_false, Bool.true_and]
      generalize rankB x = rx at *
      generalize rankB y = ry at *
      go_enter Tryd.func38, Tryd.ntmps38
      go_wp2_with fail
      refine (HA.out _).mono ?_
      rintro e w' ⟨rfl, rfl⟩
      go_wp2_with fail
      refine (HB.out _).mono ?_
      rintro e w' ⟨rfl, rfl⟩
      go_wp2_with fail
      refine (HNA.out _).mono ?_
      rintro e w' ⟨rfl, rfl⟩
      go_wp2_with fail
      refine (HNB.out _).mono ?_
      rintro e w' ⟨rfl, rfl⟩
      go_wp2_with fail
      refine (HRA.out _).mono ?_
      rintro e w' ⟨rfl, rfl⟩
      go_wp2_with fail
      refine (HRB.out _).mono ?_
      rintro e w' ⟨rfl, rfl⟩
      go_wp2_with fail
      refine (HO.out _ _).mono ?_
      rintro e w' ⟨rfl, rfl⟩
      go_wp2
      all_goals go_ret2
      all_goals exact ⟨rfl, 0, rfl⟩
    · rw [hx] at HNA
      rw [hy] at HNB
      simp only [Bool.not_false, Bool.not_true, Bool.true_and, Bool.false_and]
      go_enter Tryd.func38, Tryd.ntmps38
      go_wp2_with fail
      refine (HA.out _).mono ?_
      rintro e w' ⟨rfl, rfl⟩
      go_wp2_with fail
      refine (HB.out _).mono ?_
      rintro e w' ⟨rfl, rfl⟩
      go_wp2_with fail
      refine (HNA.out _).mono ?_
      rintro e w' ⟨rfl, rfl⟩
      go_wp2_with fail
      refine (HNB.out _).mono ?_
      rintro e w' ⟨rfl, rfl⟩
      go_wp2_with fail
      refine (HO.out _ _).mono ?_
      rintro e w' ⟨rfl, rfl⟩
      go_wp2
      all_goals go_ret2
      all_goals exact ⟨rfl, 0, rfl⟩
  · rw [hx] at HNA
    simp only [Bool.not_true, Bool.false_and]
    go_enter Tryd.func38, Tryd.ntmps38
    go_wp2_with fail
    refine (HA.out _).mono ?_
    rintro e w' ⟨rfl, rfl⟩
    go_wp2_with fail
    refine (HB.out _).mono ?_
    rintro e w' ⟨rfl, rfl⟩
    go_wp2_with fail
    refine (HNA.out _).mono ?_
    rintro e w' ⟨rfl, rfl⟩
    go_wp2_with fail
    refine (HO.out _ _).mono ?_
    rintro e w' ⟨rfl, rfl⟩
    go_wp2
    all_goals go_ret2
    all_goals exact ⟨rfl, 0, rfl⟩

set_option maxRecDepth 100000 in
set_option maxHeartbeats 1000000 in
theorem rfl_flt (a b : Int) (ha : Wd a) (hb : Wd b) (w : World) :
    Calls Tryd.prog 38 #[.int .i64 41, .int .i64 a, .int .i64 b] w fun e w' => e = .returned (.tuple #[.int .i64 (twoV 41 a b).1, .int .i64 (twoV 41 a b).2]) ∧ ∃ q, w' = w.drewN q := by
  have HA : Hid (∀ W, Calls Tryd.prog 21 #[.int .i64 a] W fun e w' => e = .returned (.float .f64 (bitsOf a)) ∧ w' = W) := fun W => rfloat_any a W
  have HB : Hid (∀ W, Calls Tryd.prog 21 #[.int .i64 b] W fun e w' => e = .returned (.float .f64 (bitsOf b)) ∧ w' = W) := fun W => rfloat_any b W
  have HNA : Hid (∀ W, Calls Tryd.prog 19 #[.int .i64 a] W fun e w' => e = .returned (.bool (nanB (bitsOf a))) ∧ w' = W) := fun W => by
    have := nan_any a W
    rw [nanW_eq] at this
    exact this
  have HNB : Hid (∀ W, Calls Tryd.prog 19 #[.int .i64 b] W fun e w' => e = .returned (.bool (nanB (bitsOf b))) ∧ w' = W) := fun W => by
    have := nan_any b W
    rw [nanW_eq] at this
    exact this
  have HRA : Hid (∀ W, Calls Tryd.prog 49 #[.int .i64 a] W fun e w' => e = .returned (.int .i64 (rankB (bitsOf a))) ∧ w' = W) := fun W => rank_any a ha W
  have HRB : Hid (∀ W, Calls Tryd.prog 49 #[.int .i64 b] W fun e w' => e = .returned (.int .i64 (rankB (bitsOf b))) ∧ w' = W) := fun W => rank_any b hb W
  have HO : Hid (∀ (c : Bool) W, Calls Tryd.prog 36 #[.bool c] W fun e w' => e = .returned (.int .i64 (oneW c)) ∧ w' = W) := fun c W => rone_any c W
  rw [show twoV 41 a b = (oneW (fltB (bitsOf a) (bitsOf b)), 0) from rfl]
  unfold fltB
  clear ha hb
  generalize bitsOf a = x at *
  generalize bitsOf b = y at *
  cases hx : nanB x
  · cases hy : nanB y
    · rw [hx] at HNA
      rw [hy] at HNB
      simp only [Bool.not_false, Bool.true_and]
      generalize rankB x = rx at *
      generalize rankB y = ry at *
      go_enter Tryd.func38, Tryd.ntmps38
      go_wp2_with fail
      refine (HA.out _).mono ?_
      rintro e w' ⟨rfl, rfl⟩
      go_wp2_with fail
      refine (HB.out _).mono ?_
      rintro e w' ⟨rfl, rfl⟩
      go_wp2_with fail
      refine (HNA.out _).mono ?_
      rintro e w' ⟨rfl, rfl⟩
      go_wp2_with fail
      refine (HNB.out _).mono ?_
      rintro e w' ⟨rfl, rfl⟩
      go_wp2_with fail
      refine (HRA.out _).mono ?_
      rintro e w' ⟨rfl, rfl⟩
      go_wp2_with fail
      refine (HRB.out _).mono ?_
      rintro e w' ⟨rfl, rfl⟩
      go_wp2_with fail
      refine (HO.out _ _).mono ?_
      rintro e w' ⟨rfl, rfl⟩
      go_wp2
      all_goals go_ret2
      all_goals exact ⟨rfl, 0, rfl⟩
    · rw [hx] at HNA
      rw [hy] at HNB
      simp only [Bool.not_false, Bool.not_true, Bool.true_and, Bool.false_and]
      go_enter Tryd.func38, Tryd.ntmps38
      go_wp2_with fail
      refine (HA.out _).mono ?_
      rintro e w' ⟨rfl, rfl⟩
      go_wp2_with fail
      refine (HB.out _).mono ?_
      rintro e w' ⟨rfl, rfl⟩
      go_wp2_with fail
      refine (HNA.out _).mono ?_
      rintro e w' ⟨rfl, rfl⟩
      go_wp2_with fail
      refine (HNB.out _).mono ?_
      rintro e w' ⟨rfl, rfl⟩
      go_wp2_with fail
      refine (HO.out _ _).mono ?_
      rintro e w' ⟨rfl, rfl⟩
      go_wp2
      all_goals go_ret2
      all_goals exact ⟨rfl, 0, rfl⟩
  · rw [hx] at HNA
    simp only [Bool.not_true, Bool.false_and]
    go_enter Tryd.func38, Tryd.ntmps38
    go_wp2_with fail
    refine (HA.out _).mono ?_
    rintro e w' ⟨rfl, rfl⟩
    go_wp2_with fail
    refine (HB.out _).mono ?_
    rintro e w' ⟨rfl, rfl⟩
    go_wp2_with fail
    refine (HNA.out _).mono ?_
    rintro e w' ⟨rfl, rfl⟩
    go_wp2_with fail
    refine (HO.out _ _).mono ?_
    rintro e w' ⟨rfl, rfl⟩
    go_wp2
    all_goals go_ret2
    all_goals exact ⟨rfl, 0, rfl⟩
end Go.Proofs.YthiopkndbicmkaaDoor

/-
  One, instruction by instruction.
-/
import Derived.Test.YthiopkndbicmkabDoorFb
namespace Go.Proofs.YthiopkndbicmkabDoor
open Go.RowKit
set_option linter.unusedVariables false
set_option linter.unusedSimpArgs false

set_option maxRecDepth 100000 in
set_option maxHeartbeats 1000000 in
theorem has1_any (op : Int) (w : World) (hL : Laid w) :
    Calls Tryd.prog 23 #[.int .i64 op] w fun e w' => e = .returned (.bool (hasB op 1)) ∧ ∃ q, w' = w.drewN q := by
  have H : Hid (∀ W, Laid W → Calls Tryd.prog 26 #[.int .i64 op, .int .u8 1] W fun e w' => e = .returned (.bool (hasB op 1)) ∧ ∃ q, w' = W.drewN q) := fun W h => has_any op 1 W h
  go_enter Tryd.func23, Tryd.ntmps23
  go_wp2_with fail
  refine (H.out _ hL).mono ?_
  rintro e w' ⟨rfl, q, rfl⟩
  go_wp2
  go_ret
  exact ⟨rfl, q, rfl⟩

/-- What a root may be. -/
def SRes (x r : Nat) : Prop := r < 18446744073709551616 ∧ (Ieee.double.sqrt x = some r ∨ (Ieee.double.sqrt x = none ∧ nanB r = true))
def srW (x : Nat) : Int := match Ieee.double.sqrt x with
  | some r => wrap64 r
  | none => 9221120237041090560

theorem sres_word {x r : Nat} (h : SRes x r) : wordOf r = srW x := by
  unfold wordOf srW
  rcases h.2 with hv | ⟨hv, hn⟩
  · rw [if_neg (by rw [sqrt_nan hv]; exact Bool.false_ne_true), hv]
  · rw [if_pos hn, hv]

theorem run_sqrt (P : Program) (w : World) (x : Nat) : ∃ r q, SRes x r ∧ (Extern.MathSqrt.sqrt #[.float .f64 x]).run P w = .ok (.float .f64 r) (w.drewN q) := by
  have hs : Extern.MathSqrt.sqrt #[.float .f64 x] = (match Ieee.double.sqrt x with
    | some r => pure (.float .f64 r)
    | none => do pure (.float .f64 (← choose (.nanBits .f64 x x))) : Sem Value) := rfl
  rw [hs]
  cases h : Ieee.double.sqrt x with
  | some r =>
    refine ⟨r, 0, ⟨?_, Or.inl h⟩, rfl⟩
    have := Ieee.Format.sqrt_lt Ieee.double h
    exact this
  | none =>
    refine ⟨Question.cut (.nanBits .f64 x x) (w.tape w.drawn (.nanBits .f64 x x)), 1, ⟨?_, Or.inr ⟨h, ?_⟩⟩, rfl⟩
    · generalize w.tape w.drawn (.nanBits .f64 x x) = k
      show (k % 2) * 9223372036854775808 + 9218868437227405312 + 1 + (k / 2) % 4503599627370495 < _
      omega
    · generalize w.tape w.drawn (.nanBits .f64 x x) = k
      show nanB ((k % 2) * 9223372036854775808 + 9218868437227405312 + 1 + (k / 2) % 4503599627370495) = true
      have h1 : k / 2 % 4503599627370495 < 4503599627370495 := Nat.mod_lt _ (by decide)
      have h2 : k % 2 < 2 := Nat.mod_lt _ (by decide)
      generalize k / 2 % 4503599627370495 = m at *
      generalize k % 2 = s at *
      unfold nanB
      simp only [decide_eq_true_eq]
      rcases (by omega : s = 0 ∨ s = 1) with rfl | rfl <;> omega

set_option maxRecDepth 100000 in
set_option maxHeartbeats 1000000 in
theorem sqrt_any (x : Nat) (w : World) :
    Calls Tryd.prog 24 #[.float .f64 x] w fun e w' => ∃ r, e = .returned (.float .f64 r) ∧ SRes x r ∧ ∃ q, w' = w.drewN q := by
  obtain ⟨r, q, hr, hrun⟩ := run_sqrt Tryd.prog w x
  have HR := hid_of hr
  have HQ := hid_of hrun
  clear hr hrun
  go_enter Tryd.func24, Tryd.ntmps24
  go_wp2
  rw [run_callFunc_extern Tryd.func30 (by kernel_rfl) (by kernel_rfl) (by kernel_rfl) (e := Extern.MathSqrt.sqrt) (by kernel_rfl), HQ.out]
  simp only [Result.andThen]
  rw [Oper.upon_value]
  go_wp2
  go_ret
  exact ⟨r, rfl, HR.out, q, rfl⟩

theorem cutA (x : Nat) : (FloatKind.f64.format.order 14114281232179134464 x == some Ordering.lt || FloatKind.f64.format.order 14114281232179134464 x == some Ordering.eq) = (!nanB x && decide (-4890909195324358656 ≤ rankB x)) := by
  have h1 : (FloatKind.f64.format.order 14114281232179134464 x == some Ordering.lt) = _ := order_lss 14114281232179134464 x
  have h2 : (FloatKind.f64.format.order 14114281232179134464 x == some Ordering.eq) = _ := order_eql 14114281232179134464 x
  rw [h1, h2, show nanB 14114281232179134464 = false from by decide, show rankB 14114281232179134464 = -4890909195324358656 from by decide]
  cases nanB x
  · simp only [Bool.not_false, Bool.true_and]
    rw [Bool.eq_iff_iff]
    simp only [Bool.or_eq_true, decide_eq_true_eq, beq_iff_eq]
    omega
  · rfl

theorem cutB (x : Nat) : (FloatKind.f64.format.order x 4890909195324358656 == some Ordering.lt) = (!nanB x && decide (rankB x < 4890909195324358656)) := by
  have h1 : (FloatKind.f64.format.order x 4890909195324358656 == some Ordering.lt) = _ := order_lss x 4890909195324358656
  rw [h1, show nanB 4890909195324358656 = false from by decide, show rankB 4890909195324358656 = 4890909195324358656 from by decide]
  cases nanB x <;> simp

set_option maxRecDepth 100000 in
set_option maxHeartbeats 1000000 in
theorem cut_any (a : Int) (h : Wd a) (w : World) :
    Calls Tryd.prog 25 #[.float .f64 (bitsOf a)] w fun e w' => e = .returned (.tuple #[.int .i64 (tiV a).1, .int .i64 (tiV a).2]) ∧ w' = w := by
  have hA := cutA (bitsOf a)
  have hB := cutB (bitsOf a)
  cases hc : cutIn (bitsOf a)
  · rw [toi_out a h hc]
    unfold cutIn at hc
    generalize bitsOf a = x at *
    clear h
    by_cases c1 : (!nanB x && decide (-4890909195324358656 ≤ rankB x)) = true
    · rw [c1] at hA hc
      have c2 : (!nanB x && decide (rankB x < 4890909195324358656)) = false := by
        rw [Bool.true_and] at hc
        rw [hc, Bool.and_false]
      rw [c2] at hB
      clear hc c1 c2
      go_enter Tryd.func25, Tryd.ntmps25
      go_wp2
      go_ret2
      exact ⟨rfl, rfl⟩
    · rw [Bool.not_eq_true] at c1
      rw [c1] at hA
      clear hc c1 hB
      go_enter Tryd.func25, Tryd.ntmps25
      go_wp2
      go_ret2
      exact ⟨rfl, rfl⟩
  · obtain ⟨hv, h2⟩ := toi_in a h hc
    rw [h2]
    unfold cutIn at hc
    simp only [Bool.and_eq_true] at hc
    obtain ⟨⟨n0, n1⟩, n2⟩ := hc
    rw [n0, n1] at hA
    rw [n0, n2] at hB
    have hrun := run_convert_float_int (P := Tryd.prog) w 37 3 .f64 .i64 (bitsOf a) (tiV a).1 (by kernel_rfl) (by kernel_rfl) hv
    generalize (tiV a).1 = n at *
    generalize bitsOf a = x at *
    clear h n0 n1 n2 h2 hv
    go_enter Tryd.func25, Tryd.ntmps25
    go_wp2
    go_ret2
    exact ⟨rfl, rfl⟩

/-- What One tells: a word, a trap. -/
def oneV (op a : Int) : Int × Int :=
  if op = 34 then (wrap64 (-a), 0) else if op = 35 then (bits .xor .i64 (-1) a, 0)
  else if op = 42 then (wordOf (Op.negFloat .f64 (bitsOf a)), 0)
  else if op = 43 then (srW (bitsOf a), 0) else if op = 44 then (wordOf (floatOfInt .f64 a), 0)
  else if op = 45 then tiV a else (0, 8)

def OneC (op a : Int) (f : FuncId) (w : World) : Prop := Calls Tryd.prog f #[.int .i64 op, .int .i64 a] w fun e w' => e = .returned (.tuple #[.int .i64 (oneV op a).1, .int .i64 (oneV op a).2]) ∧ ∃ q, w' = w.drewN q

theorem run_negf (P : Program) (w : World) (x : Nat) : (Op.unary UnOp.neg (.float .f64 x)).run P w = .ok (.float .f64 (Op.negFloat .f64 x)) w := rfl

set_option maxRecDepth 100000 in
set_option maxHeartbeats 1000000 in
theorem one_neg (a : Int) (ha : Wd a) (w : World) (hL : Laid w) : OneC 34 a 9 w := by
  have H : Hid (∀ W, Laid W → Calls Tryd.prog 23 #[.int .i64 34] W fun e w' => e = .returned (.bool true) ∧ ∃ q, w' = W.drewN q) := fun W h => has1_any 34 W h
  have HA : Hid (∀ W, Calls Tryd.prog 19 #[.int .i64 a] W fun e w' => e = .returned (.float .f64 (bitsOf a)) ∧ w' = W) := fun W => float_any a W
  have HW : Hid (∀ r W, Calls Tryd.prog 20 #[.float .f64 r] W fun e w' => e = .returned (.int .i64 (wordOf r)) ∧ w' = W) := fun r W => word_any r W
  have HS : Hid (∀ x W, Calls Tryd.prog 24 #[.float .f64 x] W fun e w' => ∃ r, e = .returned (.float .f64 r) ∧ SRes x r ∧ ∃ q, w' = W.drewN q) := fun x W => sqrt_any x W
  have HT : Hid (∀ W, Calls Tryd.prog 25 #[.float .f64 (bitsOf a)] W fun e w' => e = .returned (.tuple #[.int .i64 (tiV a).1, .int .i64 (tiV a).2]) ∧ w' = W) := fun W => cut_any a ha W
  have HA2 := hid_of ha
  clear ha
  unfold OneC
  rw [show oneV 34 a = (wrap64 (-a), 0) from rfl]
  go_enter Tryd.func9, Tryd.ntmps9
  go_wp2_with fail
  refine (H.out _ hL).mono ?_
  rintro e w' ⟨rfl, q, rfl⟩
  go_wp2
  all_goals go_ret2
  all_goals exact ⟨rfl, _, rfl⟩

set_option maxRecDepth 100000 in
set_option maxHeartbeats 1000000 in
theorem one_not (a : Int) (ha : Wd a) (w : World) (hL : Laid w) : OneC 35 a 9 w := by
  have H : Hid (∀ W, Laid W → Calls Tryd.prog 23 #[.int .i64 35] W fun e w' => e = .returned (.bool true) ∧ ∃ q, w' = W.drewN q) := fun W h => has1_any 35 W h
  have HA : Hid (∀ W, Calls Tryd.prog 19 #[.int .i64 a] W fun e w' => e = .returned (.float .f64 (bitsOf a)) ∧ w' = W) := fun W => float_any a W
  have HW : Hid (∀ r W, Calls Tryd.prog 20 #[.float .f64 r] W fun e w' => e = .returned (.int .i64 (wordOf r)) ∧ w' = W) := fun r W => word_any r W
  have HS : Hid (∀ x W, Calls Tryd.prog 24 #[.float .f64 x] W fun e w' => ∃ r, e = .returned (.float .f64 r) ∧ SRes x r ∧ ∃ q, w' = W.drewN q) := fun x W => sqrt_any x W
  have HT : Hid (∀ W, Calls Tryd.prog 25 #[.float .f64 (bitsOf a)] W fun e w' => e = .returned (.tuple #[.int .i64 (tiV a).1, .int .i64 (tiV a).2]) ∧ w' = W) := fun W => cut_any a ha W
  have HA2 := hid_of ha
  clear ha
  unfold OneC
  rw [show oneV 35 a = (bits .xor .i64 (-1) a, 0) from rfl]
  go_enter Tryd.func9, Tryd.ntmps9
  go_wp2_with fail
  refine (H.out _ hL).mono ?_
  rintro e w' ⟨rfl, q, rfl⟩
  go_wp2
  all_goals go_ret2
  all_goals exact ⟨rfl, _, rfl⟩

set_option maxRecDepth 100000 in
set_option maxHeartbeats 1000000 in
theorem one_fneg (a : Int) (ha : Wd a) (w : World) (hL : Laid w) : OneC 42 a 9 w := by
  have H : Hid (∀ W, Laid W → Calls Tryd.prog 23 #[.int .i64 42] W fun e w' => e = .returned (.bool true) ∧ ∃ q, w' = W.drewN q) := fun W h => has1_any 42 W h
  have HA : Hid (∀ W, Calls Tryd.prog 19 #[.int .i64 a] W fun e w' => e = .returned (.float .f64 (bitsOf a)) ∧ w' = W) := fun W => float_any a W
  have HW : Hid (∀ r W, Calls Tryd.prog 20 #[.float .f64 r] W fun e w' => e = .returned (.int .i64 (wordOf r)) ∧ w' = W) := fun r W => word_any r W
  have HS : Hid (∀ x W, Calls Tryd.prog 24 #[.float .f64 x] W fun e w' => ∃ r, e = .returned (.float .f64 r) ∧ SRes x r ∧ ∃ q, w' = W.drewN q) := fun x W => sqrt_any x W
  have HT : Hid (∀ W, Calls Tryd.prog 25 #[.float .f64 (bitsOf a)] W fun e w' => e = .returned (.tuple #[.int .i64 (tiV a).1, .int .i64 (tiV a).2]) ∧ w' = W) := fun W => cut_any a ha W
  have HA2 := hid_of ha
  clear ha
  unfold OneC
  rw [show oneV 42 a = (wordOf (Op.negFloat .f64 (bitsOf a)), 0) from rfl]
  go_enter Tryd.func9, Tryd.ntmps9
  go_wp2_with fail
  refine (H.out _ hL).mono ?_
  rintro e w' ⟨rfl, q, rfl⟩
  go_wp2_with fail
  refine (HA.out _).mono ?_
  rintro e w' ⟨rfl, rfl⟩
  go_wp2_with fail
  rw [run_negf]
  simp only [Result.andThen]
  rw [Oper.upon_value]
  go_wp2_with fail
  refine (HW.out _ _).mono ?_
  rintro e w' ⟨rfl, rfl⟩
  go_wp2
  all_goals go_ret2
  all_goals exact ⟨rfl, _, rfl⟩

set_option maxRecDepth 100000 in
set_option maxHeartbeats 1000000 in
theorem one_froot (a : Int) (ha : Wd a) (w : World) (hL : Laid w) : OneC 43 a 9 w := by
  have H : Hid (∀ W, Laid W → Calls Tryd.prog 23 #[.int .i64 43] W fun e w' => e = .returned (.bool true) ∧ ∃ q, w' = W.drewN q) := fun W h => has1_any 43 W h
  have HA : Hid (∀ W, Calls Tryd.prog 19 #[.int .i64 a] W fun e w' => e = .returned (.float .f64 (bitsOf a)) ∧ w' = W) := fun W => float_any a W
  have HW : Hid (∀ r W, Calls Tryd.prog 20 #[.float .f64 r] W fun e w' => e = .returned (.int .i64 (wordOf r)) ∧ w' = W) := fun r W => word_any r W
  have HS : Hid (∀ x W, Calls Tryd.prog 24 #[.float .f64 x] W fun e w' => ∃ r, e = .returned (.float .f64 r) ∧ SRes x r ∧ ∃ q, w' = W.drewN q) := fun x W => sqrt_any x W
  have HT : Hid (∀ W, Calls Tryd.prog 25 #[.float .f64 (bitsOf a)] W fun e w' => e = .returned (.tuple #[.int .i64 (tiV a).1, .int .i64 (tiV a).2]) ∧ w' = W) := fun W => cut_any a ha W
  have HA2 := hid_of ha
  clear ha
  unfold OneC
  rw [show oneV 43 a = (srW (bitsOf a), 0) from rfl]
  go_enter Tryd.func9, Tryd.ntmps9
  go_wp2_with fail
  refine (H.out _ hL).mono ?_
  rintro e w' ⟨rfl, q, rfl⟩
  go_wp2_with fail
  refine (HA.out _).mono ?_
  rintro e w' ⟨rfl, rfl⟩
  go_wp2_with fail
  refine (HS.out _ _).mono ?_
  rintro e w' ⟨r, rfl, hs, q2, rfl⟩
  have hw := sres_word hs
  have HF := hid_of hw
  clear hs hw
  go_wp2_with fail
  refine (HW.out _ _).mono ?_
  rintro e w' ⟨rfl, rfl⟩
  rw [HF.out]
  go_wp2
  all_goals go_ret2
  all_goals exact ⟨rfl, _, rfl⟩

set_option maxRecDepth 100000 in
set_option maxHeartbeats 1000000 in
theorem one_tof (a : Int) (ha : Wd a) (w : World) (hL : Laid w) : OneC 44 a 9 w := by
  have H : Hid (∀ W, Laid W → Calls Tryd.prog 23 #[.int .i64 44] W fun e w' => e = .returned (.bool true) ∧ ∃ q, w' = W.drewN q) := fun W h => has1_any 44 W h
  have HA : Hid (∀ W, Calls Tryd.prog 19 #[.int .i64 a] W fun e w' => e = .returned (.float .f64 (bitsOf a)) ∧ w' = W) := fun W => float_any a W
  have HW : Hid (∀ r W, Calls Tryd.prog 20 #[.float .f64 r] W fun e w' => e = .returned (.int .i64 (wordOf r)) ∧ w' = W) := fun r W => word_any r W
  have HS : Hid (∀ x W, Calls Tryd.prog 24 #[.float .f64 x] W fun e w' => ∃ r, e = .returned (.float .f64 r) ∧ SRes x r ∧ ∃ q, w' = W.drewN q) := fun x W => sqrt_any x W
  have HT : Hid (∀ W, Calls Tryd.prog 25 #[.float .f64 (bitsOf a)] W fun e w' => e = .returned (.tuple #[.int .i64 (tiV a).1, .int .i64 (tiV a).2]) ∧ w' = W) := fun W => cut_any a ha W
  have HA2 := hid_of ha
  clear ha
  unfold OneC
  rw [show oneV 44 a = (wordOf (floatOfInt .f64 a), 0) from rfl]
  go_enter Tryd.func9, Tryd.ntmps9
  go_wp2_with fail
  refine (H.out _ hL).mono ?_
  rintro e w' ⟨rfl, q, rfl⟩
  go_wp2_with fail
  refine (HW.out _ _).mono ?_
  rintro e w' ⟨rfl, rfl⟩
  go_wp2
  all_goals go_ret2
  all_goals exact ⟨rfl, _, rfl⟩

set_option maxRecDepth 100000 in
set_option maxHeartbeats 1000000 in
theorem one_toi (a : Int) (ha : Wd a) (w : World) (hL : Laid w) : OneC 45 a 9 w := by
  have H : Hid (∀ W, Laid W → Calls Tryd.prog 23 #[.int .i64 45] W fun e w' => e = .returned (.bool true) ∧ ∃ q, w' = W.drewN q) := fun W h => has1_any 45 W h
  have HA : Hid (∀ W, Calls Tryd.prog 19 #[.int .i64 a] W fun e w' => e = .returned (.float .f64 (bitsOf a)) ∧ w' = W) := fun W => float_any a W
  have HW : Hid (∀ r W, Calls Tryd.prog 20 #[.float .f64 r] W fun e w' => e = .returned (.int .i64 (wordOf r)) ∧ w' = W) := fun r W => word_any r W
  have HS : Hid (∀ x W, Calls Tryd.prog 24 #[.float .f64 x] W fun e w' => ∃ r, e = .returned (.float .f64 r) ∧ SRes x r ∧ ∃ q, w' = W.drewN q) := fun x W => sqrt_any x W
  have HT : Hid (∀ W, Calls Tryd.prog 25 #[.float .f64 (bitsOf a)] W fun e w' => e = .returned (.tuple #[.int .i64 (tiV a).1, .int .i64 (tiV a).2]) ∧ w' = W) := fun W => cut_any a ha W
  have HA2 := hid_of ha
  clear ha
  unfold OneC
  rw [show oneV 45 a = ((tiV a).1, (tiV a).2) from rfl]
  go_enter Tryd.func9, Tryd.ntmps9
  go_wp2_with fail
  refine (H.out _ hL).mono ?_
  rintro e w' ⟨rfl, q, rfl⟩
  go_wp2_with fail
  refine (HA.out _).mono ?_
  rintro e w' ⟨rfl, rfl⟩
  go_wp2_with fail
  refine (HT.out _).mono ?_
  rintro e w' ⟨rfl, rfl⟩
  go_wp2
  all_goals go_ret2
  all_goals exact ⟨rfl, _, rfl⟩

theorem has1_out {op : Int} (h : hasB op 1 = true) : op = 34 ∨ op = 35 ∨ op = 42 ∨ op = 43 ∨ op = 44 ∨ op = 45 := by
  unfold hasB at h
  simp only [Bool.and_eq_true, decide_eq_true_eq, beq_iff_eq] at h
  obtain ⟨⟨h0, h1⟩, h2⟩ := h
  obtain ⟨n, rfl⟩ : ∃ n : Nat, op = (n : Int) := ⟨op.toNat, by omega⟩
  rw [Int.toNat_natCast] at h2
  have h3 : ∀ n, n < 46 → tk.getD n 0 = 1 → (34 ≤ n ∧ n ≤ 35) ∨ (42 ≤ n ∧ n ≤ 45) := by decide
  have := h3 n (by omega) h2
  omega

theorem oneV_none {op : Int} (a : Int) (h : hasB op 1 = false) : oneV op a = (0, 8) := by
  unfold oneV
  rw [if_neg (show ¬ op = 34 from by rintro rfl; exact absurd h (by decide)), if_neg (show ¬ op = 35 from by rintro rfl; exact absurd h (by decide)), if_neg (show ¬ op = 42 from by rintro rfl; exact absurd h (by decide)), if_neg (show ¬ op = 43 from by rintro rfl; exact absurd h (by decide)), if_neg (show ¬ op = 44 from by rintro rfl; exact absurd h (by decide)), if_neg (show ¬ op = 45 from by rintro rfl; exact absurd h (by decide))]

set_option maxRecDepth 100000 in
set_option maxHeartbeats 1000000 in
theorem one_none (op a : Int) (h : hasB op 1 = false) (w : World) (hL : Laid w) : OneC op a 9 w := by
  have H : Hid (∀ W, Laid W → Calls Tryd.prog 23 #[.int .i64 op] W fun e w' => e = .returned (.bool false) ∧ ∃ q, w' = W.drewN q) := fun W hl => by
    have := has1_any op W hl
    rw [h] at this
    exact this
  unfold OneC
  rw [oneV_none a h]
  clear h
  go_enter Tryd.func9, Tryd.ntmps9
  go_wp2_with fail
  refine (H.out _ hL).mono ?_
  rintro e w' ⟨rfl, q, rfl⟩
  go_wp2
  go_ret2
  exact ⟨rfl, q, rfl⟩

theorem one_any (op a : Int) (ha : Wd a) (w : World) (hL : Laid w) : OneC op a 9 w := by
  cases h : hasB op 1
  · exact one_none op a h w hL
  · rcases has1_out h with rfl | rfl | rfl | rfl | rfl | rfl
    · exact one_neg a ha w hL
    · exact one_not a ha w hL
    · exact one_fneg a ha w hL
    · exact one_froot a ha w hL
    · exact one_tof a ha w hL
    · exact one_toi a ha w hL

set_option maxRecDepth 100000 in
set_option maxHeartbeats 1000000 in
theorem law_one (op a : Int) (ha : Wd a) (w : World) (hL : Laid w) :
    Calls Tryd.prog 8 #[.int .i64 op, .int .i64 a] w fun e w' => e = .returned (.int .i64 (if (oneV op a).2 = 0 then (oneV op a).1 else -12345)) ∧ ∃ q, w' = w.drewN q := by
  have H : Hid (∀ W, Laid W → Calls Tryd.prog 9 #[.int .i64 op, .int .i64 a] W fun e w' => e = .returned (.tuple #[.int .i64 (oneV op a).1, .int .i64 (oneV op a).2]) ∧ ∃ q, w' = W.drewN q) := fun W hl => one_any op a ha W hl
  clear ha
  generalize (oneV op a).1 = v at *
  generalize (oneV op a).2 = t at *
  by_cases ht : t = 0
  · subst ht
    rw [if_pos rfl]
    go_enter Tryd.func8, Tryd.ntmps8
    go_wp2_with fail
    refine (H.out _ hL).mono ?_
    rintro e w' ⟨rfl, q, rfl⟩
    go_wp2
    all_goals go_ret
    all_goals exact ⟨rfl, q, rfl⟩
  · rw [if_neg ht]
    have ht' : (t == 0) = false := by simpa using ht
    have ht2 : (t != 0) = true := by simpa using ht
    go_enter Tryd.func8, Tryd.ntmps8
    go_wp2_with fail
    refine (H.out _ hL).mono ?_
    rintro e w' ⟨rfl, q, rfl⟩
    go_wp2
    all_goals go_ret
    all_goals exact ⟨rfl, q, rfl⟩

set_option maxRecDepth 100000 in
set_option maxHeartbeats 1000000 in
theorem head_any (w : World) (hL : Laid w) :
    Calls Tryd.prog 10 #[] w fun e w' => e = .returned (.bool true) ∧ ∃ q, w' = w.drewN q := by
  have H1 : Hid (∀ W, Laid W → Calls Tryd.prog 5 #[.int .i64 20, .int .i64 3, .int .i64 4] W fun e w' => e = .returned (.tuple #[.int .i64 7, .int .i64 0]) ∧ ∃ q, w' = W.drewN q) := fun W hl => by
    have h := two_add 3 4 W hl
    have e : twoV 20 3 4 = (7, 0) := by decide +kernel
    unfold TwoC at h
    rw [e] at h
    exact h
  have H2 : Hid (∀ W, Laid W → Calls Tryd.prog 5 #[.int .i64 23, .int .i64 1, .int .i64 0] W fun e w' => e = .returned (.tuple #[.int .i64 0, .int .i64 5]) ∧ ∃ q, w' = W.drewN q) := fun W hl => two_div 1 0 W hl
  have H3 : Hid (∀ W, Laid W → Calls Tryd.prog 9 #[.int .i64 44, .int .i64 1] W fun e w' => e = .returned (.tuple #[.int .i64 4607182418800017408, .int .i64 0]) ∧ ∃ q, w' = W.drewN q) := fun W hl => by
    have h := one_tof 1 (by constructor <;> decide) W hl
    have e : oneV 44 1 = (4607182418800017408, 0) := by decide +kernel
    unfold OneC at h
    rw [e] at h
    exact h
  go_enter Tryd.func10, Tryd.ntmps10
  go_wp2_with fail
  refine (H1.out _ hL).mono ?_
  rintro e w' ⟨rfl, q, rfl⟩
  go_wp2_with fail
  refine (H2.out _ (laid_drewN hL _)).mono ?_
  rintro e w' ⟨rfl, q2, rfl⟩
  go_wp2_with fail
  refine (H3.out _ (laid_drewN hL _)).mono ?_
  rintro e w' ⟨rfl, q3, rfl⟩
  go_wp2
  all_goals go_ret
  all_goals exact ⟨rfl, _, rfl⟩
end Go.Proofs.YthiopkndbicmkabDoor

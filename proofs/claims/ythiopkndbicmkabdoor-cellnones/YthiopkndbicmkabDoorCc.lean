/-
  Two, instruction by instruction.
-/
import Derived.Test.YthiopkndbicmkabDoorCb
namespace Go.Proofs.YthiopkndbicmkabDoor
open Go.RowKit
set_option linter.unusedVariables false
set_option linter.unusedSimpArgs false

set_option maxRecDepth 100000 in
set_option maxHeartbeats 1000000 in
theorem has2_any (op : Int) (w : World) (hL : Laid w) :
    Calls Tryd.prog 11 #[.int .i64 op] w fun e w' => e = .returned (.bool (hasB op 2)) ∧ ∃ q, w' = w.drewN q := by
  have H : Hid (∀ W, Laid W → Calls Tryd.prog 26 #[.int .i64 op, .int .u8 2] W fun e w' => e = .returned (.bool (hasB op 2)) ∧ ∃ q, w' = W.drewN q) := fun W h => has_any op 2 W h
  go_enter Tryd.func11, Tryd.ntmps11
  go_wp2_with fail
  refine (H.out _ hL).mono ?_
  rintro e w' ⟨rfl, q, rfl⟩
  go_wp2
  go_ret
  exact ⟨rfl, q, rfl⟩

/-- How far bits are moved. -/
def by6 (b : Int) : Nat := (b % 64).toNat
theorem by6_eq (b : Int) : (IntKind.u64.wrap b).tmod 64 = (by6 b : Int) := by
  have h : IntKind.u64.wrap b = b % 18446744073709551616 := rfl
  rw [h, Int.tmod_eq_emod_of_nonneg (by omega)]
  unfold by6
  omega
theorem by6_lt (b : Int) : by6 b < 64 := by unfold by6; omega

theorem run_shl (P : Program) (w : World) (a : Int) (n : Nat) (hn : n < 64) : (Op.shift .shl .i64 a .u64 (n : Int)).run P w = .ok (.int .i64 (wrap64 (a * 2 ^ n))) w := by
  have h1 : ¬ ((n : Int) < 0) := by omega
  have h2 : min n 64 = n := by omega
  show (if (n : Int) < 0 then _ else (pure (.int .i64 (IntKind.i64.wrap (a * 2 ^ min (n : Int).toNat 64))) : Sem Value)).run P w = _
  rw [if_neg h1, Int.toNat_natCast, h2, IntWalk.i64_left]; rfl
theorem run_shr (P : Program) (w : World) (k : IntKind) (hk : k.bits = 64) (a : Int) (n : Nat) (hn : n < 64) : (Op.shift .shr k a .u64 (n : Int)).run P w = .ok (.int k (a / 2 ^ n)) w := by
  have h1 : ¬ ((n : Int) < 0) := by omega
  have h2 : min n 64 = n := by omega
  show (if (n : Int) < 0 then _ else (pure (.int k (a.fdiv (2 ^ min (n : Int).toNat k.bits))) : Sem Value)).run P w = _
  rw [if_neg h1, Int.toNat_natCast, hk, h2, Int.fdiv_eq_ediv_of_nonneg _ (Int.le_of_lt (Int.pow_pos (by decide)))]; rfl

/-- What Two tells: a word, a trap. -/
def twoV (op a b : Int) : Int × Int :=
  if op = 20 then (wrap64 (a + b), 0) else if op = 21 then (wrap64 (a - b), 0) else if op = 22 then (wrap64 (a * b), 0)
  else if op = 23 then (if b = 0 then (0, 5) else (wrap64 (a.tdiv b), 0))
  else if op = 24 then (if b = 0 then (0, 5) else (a.tmod b, 0))
  else if op = 25 then (bits .and .i64 a b, 0) else if op = 26 then (bits .or .i64 a b, 0) else if op = 27 then (bits .xor .i64 a b, 0)
  else if op = 28 then (wrap64 (a * 2 ^ by6 b), 0) else if op = 29 then (a / 2 ^ by6 b, 0) else if op = 30 then (wrap64 ((bitsOf a : Int) / 2 ^ by6 b), 0)
  else if op = 31 then (oneW (a == b), 0) else if op = 32 then (oneW (decide (a < b)), 0) else if op = 33 then (oneW (decide (bitsOf a < bitsOf b)), 0)
  else if op = 36 then (faW .add (bitsOf a) (bitsOf b), 0) else if op = 37 then (faW .sub (bitsOf a) (bitsOf b), 0) else if op = 38 then (faW .mul (bitsOf a) (bitsOf b), 0) else if op = 39 then (faW .quo (bitsOf a) (bitsOf b), 0)
  else if op = 40 then (oneW (feqB (bitsOf a) (bitsOf b)), 0) else if op = 41 then (oneW (fltB (bitsOf a) (bitsOf b)), 0)
  else (0, 8)

def TwoC (op a b : Int) (f : FuncId) (w : World) : Prop := Calls Tryd.prog f #[.int .i64 op, .int .i64 a, .int .i64 b] w fun e w' => e = .returned (.tuple #[.int .i64 (twoV op a b).1, .int .i64 (twoV op a b).2]) ∧ ∃ q, w' = w.drewN q

set_option maxRecDepth 100000 in
set_option maxHeartbeats 1000000 in
theorem two_add (a b : Int) (w : World) (hL : Laid w) : TwoC 20 a b 5 w := by
  have H : Hid (∀ W, Laid W → Calls Tryd.prog 11 #[.int .i64 20] W fun e w' => e = .returned (.bool true) ∧ ∃ q, w' = W.drewN q) := fun W h => has2_any 20 W h
  unfold TwoC
  rw [show twoV 20 a b = (wrap64 (a + b), 0) from rfl]
  go_enter Tryd.func5, Tryd.ntmps5
  go_wp2_with fail
  refine (H.out _ hL).mono ?_
  rintro e w' ⟨rfl, q, rfl⟩
  go_wp2
  go_ret2
  exact ⟨rfl, q, rfl⟩

set_option maxRecDepth 100000 in
set_option maxHeartbeats 1000000 in
theorem two_sub (a b : Int) (w : World) (hL : Laid w) : TwoC 21 a b 5 w := by
  have H : Hid (∀ W, Laid W → Calls Tryd.prog 11 #[.int .i64 21] W fun e w' => e = .returned (.bool true) ∧ ∃ q, w' = W.drewN q) := fun W h => has2_any 21 W h
  unfold TwoC
  rw [show twoV 21 a b = (wrap64 (a - b), 0) from rfl]
  go_enter Tryd.func5, Tryd.ntmps5
  go_wp2_with fail
  refine (H.out _ hL).mono ?_
  rintro e w' ⟨rfl, q, rfl⟩
  go_wp2
  go_ret2
  exact ⟨rfl, q, rfl⟩

set_option maxRecDepth 100000 in
set_option maxHeartbeats 1000000 in
theorem two_mul (a b : Int) (w : World) (hL : Laid w) : TwoC 22 a b 5 w := by
  have H : Hid (∀ W, Laid W → Calls Tryd.prog 11 #[.int .i64 22] W fun e w' => e = .returned (.bool true) ∧ ∃ q, w' = W.drewN q) := fun W h => has2_any 22 W h
  unfold TwoC
  rw [show twoV 22 a b = (wrap64 (a * b), 0) from rfl]
  go_enter Tryd.func5, Tryd.ntmps5
  go_wp2_with fail
  refine (H.out _ hL).mono ?_
  rintro e w' ⟨rfl, q, rfl⟩
  go_wp2
  go_ret2
  exact ⟨rfl, q, rfl⟩

set_option maxRecDepth 100000 in
set_option maxHeartbeats 1000000 in
theorem two_and (a b : Int) (w : World) (hL : Laid w) : TwoC 25 a b 5 w := by
  have H : Hid (∀ W, Laid W → Calls Tryd.prog 11 #[.int .i64 25] W fun e w' => e = .returned (.bool true) ∧ ∃ q, w' = W.drewN q) := fun W h => has2_any 25 W h
  unfold TwoC
  rw [show twoV 25 a b = (bits .and .i64 a b, 0) from rfl]
  go_enter Tryd.func5, Tryd.ntmps5
  go_wp2_with fail
  refine (H.out _ hL).mono ?_
  rintro e w' ⟨rfl, q, rfl⟩
  go_wp2
  go_ret2
  exact ⟨rfl, q, rfl⟩

set_option maxRecDepth 100000 in
set_option maxHeartbeats 1000000 in
theorem two_or (a b : Int) (w : World) (hL : Laid w) : TwoC 26 a b 5 w := by
  have H : Hid (∀ W, Laid W → Calls Tryd.prog 11 #[.int .i64 26] W fun e w' => e = .returned (.bool true) ∧ ∃ q, w' = W.drewN q) := fun W h => has2_any 26 W h
  unfold TwoC
  rw [show twoV 26 a b = (bits .or .i64 a b, 0) from rfl]
  go_enter Tryd.func5, Tryd.ntmps5
  go_wp2_with fail
  refine (H.out _ hL).mono ?_
  rintro e w' ⟨rfl, q, rfl⟩
  go_wp2
  go_ret2
  exact ⟨rfl, q, rfl⟩

set_option maxRecDepth 100000 in
set_option maxHeartbeats 1000000 in
theorem two_xor (a b : Int) (w : World) (hL : Laid w) : TwoC 27 a b 5 w := by
  have H : Hid (∀ W, Laid W → Calls Tryd.prog 11 #[.int .i64 27] W fun e w' => e = .returned (.bool true) ∧ ∃ q, w' = W.drewN q) := fun W h => has2_any 27 W h
  unfold TwoC
  rw [show twoV 27 a b = (bits .xor .i64 a b, 0) from rfl]
  go_enter Tryd.func5, Tryd.ntmps5
  go_wp2_with fail
  refine (H.out _ hL).mono ?_
  rintro e w' ⟨rfl, q, rfl⟩
  go_wp2
  go_ret2
  exact ⟨rfl, q, rfl⟩

set_option maxRecDepth 100000 in
set_option maxHeartbeats 1000000 in
theorem two_div (a b : Int) (w : World) (hL : Laid w) : TwoC 23 a b 5 w := by
  have H : Hid (∀ W, Laid W → Calls Tryd.prog 11 #[.int .i64 23] W fun e w' => e = .returned (.bool true) ∧ ∃ q, w' = W.drewN q) := fun W h => has2_any 23 W h
  unfold TwoC
  by_cases hb : b = 0
  · subst hb
    rw [show twoV 23 a 0 = (0, 5) from rfl]
    go_enter Tryd.func5, Tryd.ntmps5
    go_wp2_with fail
    refine (H.out _ hL).mono ?_
    rintro e w' ⟨rfl, q, rfl⟩
    go_wp2
    all_goals go_ret2
    all_goals exact ⟨rfl, q, rfl⟩
  · rw [show twoV 23 a b = (wrap64 (a.tdiv b), 0) from by show (if b = 0 then _ else _) = _; rw [if_neg hb]]
    have hb' : (b == 0) = false := by simpa using hb
    go_enter Tryd.func5, Tryd.ntmps5
    go_wp2_with fail
    refine (H.out _ hL).mono ?_
    rintro e w' ⟨rfl, q, rfl⟩
    go_wp2
    all_goals go_ret2
    all_goals exact ⟨rfl, q, rfl⟩

set_option maxRecDepth 100000 in
set_option maxHeartbeats 1000000 in
theorem two_rem (a b : Int) (w : World) (hL : Laid w) : TwoC 24 a b 5 w := by
  have H : Hid (∀ W, Laid W → Calls Tryd.prog 11 #[.int .i64 24] W fun e w' => e = .returned (.bool true) ∧ ∃ q, w' = W.drewN q) := fun W h => has2_any 24 W h
  unfold TwoC
  by_cases hb : b = 0
  · subst hb
    rw [show twoV 24 a 0 = (0, 5) from rfl]
    go_enter Tryd.func5, Tryd.ntmps5
    go_wp2_with fail
    refine (H.out _ hL).mono ?_
    rintro e w' ⟨rfl, q, rfl⟩
    go_wp2
    all_goals go_ret2
    all_goals exact ⟨rfl, q, rfl⟩
  · rw [show twoV 24 a b = (a.tmod b, 0) from by show (if b = 0 then _ else _) = _; rw [if_neg hb]]
    have hb' : (b == 0) = false := by simpa using hb
    go_enter Tryd.func5, Tryd.ntmps5
    go_wp2_with fail
    refine (H.out _ hL).mono ?_
    rintro e w' ⟨rfl, q, rfl⟩
    go_wp2
    all_goals go_ret2
    all_goals exact ⟨rfl, q, rfl⟩

set_option maxRecDepth 100000 in
set_option maxHeartbeats 1000000 in
theorem moved_shl (a : Int) (n : Nat) (hn : n < 64) (w : World) :
    Calls Tryd.prog 15 #[.int .i64 28, .int .i64 a, .int .u64 (n : Int)] w fun e w' => e = .returned (.int .i64 (wrap64 (a * 2 ^ n))) ∧ w' = w := by
  have hr := run_shl Tryd.prog w a n hn
  go_enter Tryd.func15, Tryd.ntmps15
  go_wp2
  go_ret
  exact ⟨rfl, rfl⟩

set_option maxRecDepth 100000 in
set_option maxHeartbeats 1000000 in
theorem two_shl (a b : Int) (w : World) (hL : Laid w) : TwoC 28 a b 5 w := by
  have H : Hid (∀ W, Laid W → Calls Tryd.prog 11 #[.int .i64 28] W fun e w' => e = .returned (.bool true) ∧ ∃ q, w' = W.drewN q) := fun W h => has2_any 28 W h
  have HM : Hid (∀ W, Calls Tryd.prog 15 #[.int .i64 28, .int .i64 a, .int .u64 ((IntKind.u64.wrap b).tmod 64)] W fun e w' => e = .returned (.int .i64 (wrap64 (a * 2 ^ by6 b))) ∧ w' = W) := fun W => by
    rw [by6_eq]; exact moved_shl a (by6 b) (by6_lt b) W
  unfold TwoC
  rw [show twoV 28 a b = (wrap64 (a * 2 ^ by6 b), 0) from rfl]
  go_enter Tryd.func5, Tryd.ntmps5
  go_wp2_with fail
  refine (H.out _ hL).mono ?_
  rintro e w' ⟨rfl, q, rfl⟩
  go_wp2_with fail
  refine (HM.out _).mono ?_
  rintro e w' ⟨rfl, rfl⟩
  go_wp2
  go_ret2
  exact ⟨rfl, q, rfl⟩

set_option maxRecDepth 100000 in
set_option maxHeartbeats 1000000 in
theorem moved_shr (a : Int) (n : Nat) (hn : n < 64) (w : World) :
    Calls Tryd.prog 15 #[.int .i64 29, .int .i64 a, .int .u64 (n : Int)] w fun e w' => e = .returned (.int .i64 (a / 2 ^ n)) ∧ w' = w := by
  have hr := run_shr Tryd.prog w .i64 rfl a n hn
  go_enter Tryd.func15, Tryd.ntmps15
  go_wp2
  go_ret
  exact ⟨rfl, rfl⟩

set_option maxRecDepth 100000 in
set_option maxHeartbeats 1000000 in
theorem two_shr (a b : Int) (w : World) (hL : Laid w) : TwoC 29 a b 5 w := by
  have H : Hid (∀ W, Laid W → Calls Tryd.prog 11 #[.int .i64 29] W fun e w' => e = .returned (.bool true) ∧ ∃ q, w' = W.drewN q) := fun W h => has2_any 29 W h
  have HM : Hid (∀ W, Calls Tryd.prog 15 #[.int .i64 29, .int .i64 a, .int .u64 ((IntKind.u64.wrap b).tmod 64)] W fun e w' => e = .returned (.int .i64 (a / 2 ^ by6 b)) ∧ w' = W) := fun W => by
    rw [by6_eq]; exact moved_shr a (by6 b) (by6_lt b) W
  unfold TwoC
  rw [show twoV 29 a b = (a / 2 ^ by6 b, 0) from rfl]
  go_enter Tryd.func5, Tryd.ntmps5
  go_wp2_with fail
  refine (H.out _ hL).mono ?_
  rintro e w' ⟨rfl, q, rfl⟩
  go_wp2_with fail
  refine (HM.out _).mono ?_
  rintro e w' ⟨rfl, rfl⟩
  go_wp2
  go_ret2
  exact ⟨rfl, q, rfl⟩

set_option maxRecDepth 100000 in
set_option maxHeartbeats 1000000 in
theorem moved_ushr (a : Int) (n : Nat) (hn : n < 64) (w : World) :
    Calls Tryd.prog 15 #[.int .i64 30, .int .i64 a, .int .u64 (n : Int)] w fun e w' => e = .returned (.int .i64 (wrap64 ((bitsOf a : Int) / 2 ^ n))) ∧ w' = w := by
  have hr := run_shr Tryd.prog w .u64 rfl (bitsOf a) n hn
  have hb : IntKind.u64.wrap a = (bitsOf a : Int) := by rw [bitsOf_eq]; show a % 18446744073709551616 = _; omega
  generalize hB : (bitsOf a : Int) = B at *
  go_enter Tryd.func15, Tryd.ntmps15
  go_wp2
  go_ret
  exact ⟨rfl, rfl⟩

set_option maxRecDepth 100000 in
set_option maxHeartbeats 1000000 in
theorem two_ushr (a b : Int) (w : World) (hL : Laid w) : TwoC 30 a b 5 w := by
  have H : Hid (∀ W, Laid W → Calls Tryd.prog 11 #[.int .i64 30] W fun e w' => e = .returned (.bool true) ∧ ∃ q, w' = W.drewN q) := fun W h => has2_any 30 W h
  have HM : Hid (∀ W, Calls Tryd.prog 15 #[.int .i64 30, .int .i64 a, .int .u64 ((IntKind.u64.wrap b).tmod 64)] W fun e w' => e = .returned (.int .i64 (wrap64 ((bitsOf a : Int) / 2 ^ by6 b))) ∧ w' = W) := fun W => by
    rw [by6_eq]; exact moved_ushr a (by6 b) (by6_lt b) W
  unfold TwoC
  rw [show twoV 30 a b = (wrap64 ((bitsOf a : Int) / 2 ^ by6 b), 0) from rfl]
  go_enter Tryd.func5, Tryd.ntmps5
  go_wp2_with fail
  refine (H.out _ hL).mono ?_
  rintro e w' ⟨rfl, q, rfl⟩
  go_wp2_with fail
  refine (HM.out _).mono ?_
  rintro e w' ⟨rfl, rfl⟩
  go_wp2
  go_ret2
  exact ⟨rfl, q, rfl⟩

set_option maxRecDepth 100000 in
set_option maxHeartbeats 1000000 in
theorem comp_eq (a b : Int) (w : World) :
    Calls Tryd.prog 17 #[.int .i64 31, .int .i64 a, .int .i64 b] w fun e w' => e = .returned (.bool (a == b)) ∧ w' = w := by
  go_enter Tryd.func17, Tryd.ntmps17
  go_wp2
  go_ret
  exact ⟨rfl, rfl⟩

set_option maxRecDepth 100000 in
set_option maxHeartbeats 1000000 in
theorem two_eq (a b : Int) (w : World) (hL : Laid w) : TwoC 31 a b 5 w := by
  have H : Hid (∀ W, Laid W → Calls Tryd.prog 11 #[.int .i64 31] W fun e w' => e = .returned (.bool true) ∧ ∃ q, w' = W.drewN q) := fun W h => has2_any 31 W h
  have HM : Hid (∀ W, Calls Tryd.prog 17 #[.int .i64 31, .int .i64 a, .int .i64 b] W fun e w' => e = .returned (.bool (a == b)) ∧ w' = W) := fun W => comp_eq a b W
  have HO : Hid (∀ W, Calls Tryd.prog 16 #[.bool (a == b)] W fun e w' => e = .returned (.int .i64 (oneW (a == b))) ∧ w' = W) := fun W => oneif_any _ W
  unfold TwoC
  rw [show twoV 31 a b = (oneW (a == b), 0) from rfl]
  generalize (a == b) = bb at *
  go_enter Tryd.func5, Tryd.ntmps5
  go_wp2_with fail
  refine (H.out _ hL).mono ?_
  rintro e w' ⟨rfl, q, rfl⟩
  go_wp2_with fail
  refine (HM.out _).mono ?_
  rintro e w' ⟨rfl, rfl⟩
  go_wp2_with fail
  refine (HO.out _).mono ?_
  rintro e w' ⟨rfl, rfl⟩
  go_wp2
  go_ret2
  exact ⟨rfl, q, rfl⟩

set_option maxRecDepth 100000 in
set_option maxHeartbeats 1000000 in
theorem comp_lt (a b : Int) (w : World) :
    Calls Tryd.prog 17 #[.int .i64 32, .int .i64 a, .int .i64 b] w fun e w' => e = .returned (.bool (decide (a < b))) ∧ w' = w := by
  go_enter Tryd.func17, Tryd.ntmps17
  go_wp2
  go_ret
  exact ⟨rfl, rfl⟩

set_option maxRecDepth 100000 in
set_option maxHeartbeats 1000000 in
theorem two_lt (a b : Int) (w : World) (hL : Laid w) : TwoC 32 a b 5 w := by
  have H : Hid (∀ W, Laid W → Calls Tryd.prog 11 #[.int .i64 32] W fun e w' => e = .returned (.bool true) ∧ ∃ q, w' = W.drewN q) := fun W h => has2_any 32 W h
  have HM : Hid (∀ W, Calls Tryd.prog 17 #[.int .i64 32, .int .i64 a, .int .i64 b] W fun e w' => e = .returned (.bool (decide (a < b))) ∧ w' = W) := fun W => comp_lt a b W
  have HO : Hid (∀ W, Calls Tryd.prog 16 #[.bool (decide (a < b))] W fun e w' => e = .returned (.int .i64 (oneW (decide (a < b)))) ∧ w' = W) := fun W => oneif_any _ W
  unfold TwoC
  rw [show twoV 32 a b = (oneW (decide (a < b)), 0) from rfl]
  generalize (decide (a < b)) = bb at *
  go_enter Tryd.func5, Tryd.ntmps5
  go_wp2_with fail
  refine (H.out _ hL).mono ?_
  rintro e w' ⟨rfl, q, rfl⟩
  go_wp2_with fail
  refine (HM.out _).mono ?_
  rintro e w' ⟨rfl, rfl⟩
  go_wp2_with fail
  refine (HO.out _).mono ?_
  rintro e w' ⟨rfl, rfl⟩
  go_wp2
  go_ret2
  exact ⟨rfl, q, rfl⟩

set_option maxRecDepth 100000 in
set_option maxHeartbeats 1000000 in
theorem comp_ult (a b : Int) (w : World) :
    Calls Tryd.prog 17 #[.int .i64 33, .int .i64 a, .int .i64 b] w fun e w' => e = .returned (.bool (decide (bitsOf a < bitsOf b))) ∧ w' = w := by
  have h : decide (IntKind.u64.wrap a < IntKind.u64.wrap b) = decide (bitsOf a < bitsOf b) := by
    have h1 : IntKind.u64.wrap a = (bitsOf a : Int) := by rw [bitsOf_eq]; show a % 18446744073709551616 = _; omega
    have h2 : IntKind.u64.wrap b = (bitsOf b : Int) := by rw [bitsOf_eq]; show b % 18446744073709551616 = _; omega
    rw [h1, h2]
    by_cases c : bitsOf a < bitsOf b
    · rw [decide_eq_true c, decide_eq_true (by omega)]
    · rw [decide_eq_false c, decide_eq_false (by omega)]
  go_enter Tryd.func17, Tryd.ntmps17
  go_wp2
  go_ret
  exact ⟨rfl, rfl⟩

set_option maxRecDepth 100000 in
set_option maxHeartbeats 1000000 in
theorem two_ult (a b : Int) (w : World) (hL : Laid w) : TwoC 33 a b 5 w := by
  have H : Hid (∀ W, Laid W → Calls Tryd.prog 11 #[.int .i64 33] W fun e w' => e = .returned (.bool true) ∧ ∃ q, w' = W.drewN q) := fun W h => has2_any 33 W h
  have HM : Hid (∀ W, Calls Tryd.prog 17 #[.int .i64 33, .int .i64 a, .int .i64 b] W fun e w' => e = .returned (.bool (decide (bitsOf a < bitsOf b))) ∧ w' = W) := fun W => comp_ult a b W
  have HO : Hid (∀ W, Calls Tryd.prog 16 #[.bool (decide (bitsOf a < bitsOf b))] W fun e w' => e = .returned (.int .i64 (oneW (decide (bitsOf a < bitsOf b)))) ∧ w' = W) := fun W => oneif_any _ W
  unfold TwoC
  rw [show twoV 33 a b = (oneW (decide (bitsOf a < bitsOf b)), 0) from rfl]
  generalize (decide (bitsOf a < bitsOf b)) = bb at *
  go_enter Tryd.func5, Tryd.ntmps5
  go_wp2_with fail
  refine (H.out _ hL).mono ?_
  rintro e w' ⟨rfl, q, rfl⟩
  go_wp2_with fail
  refine (HM.out _).mono ?_
  rintro e w' ⟨rfl, rfl⟩
  go_wp2_with fail
  refine (HO.out _).mono ?_
  rintro e w' ⟨rfl, rfl⟩
  go_wp2
  go_ret2
  exact ⟨rfl, q, rfl⟩
end Go.Proofs.YthiopkndbicmkabDoor

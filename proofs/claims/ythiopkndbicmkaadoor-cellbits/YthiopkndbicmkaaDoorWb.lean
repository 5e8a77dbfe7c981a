/-
  The walk of CellBits.
-/
import Derived.Test.YthiopkndbicmkaaDoorCl
namespace Go.Proofs.YthiopkndbicmkaaDoor
open Go.RowKit
set_option linter.unusedVariables false
set_option linter.unusedSimpArgs false

set_option maxRecDepth 100000 in
set_option maxHeartbeats 1000000 in
theorem cellBits_walk (a : Int) (ha : Wd a) (w : World) (hL : Laid w) : Calls Tryd.prog 5 #[.int .i64 a] w (Gone w) := by
  have HF : Hid (∀ W, Calls Tryd.prog 18 #[.int .i64 a] W fun e w' => e = .returned (.float .f64 (bitsOf a)) ∧ w' = W) := fun W => float_any a W
  have HG : Hid (∀ W, Calls Tryd.prog 21 #[.int .i64 a] W fun e w' => e = .returned (.float .f64 (bitsOf a)) ∧ w' = W) := fun W => rfloat_any a W
  have HN : Hid (∀ W, Calls Tryd.prog 19 #[.int .i64 a] W fun e w' => e = .returned (.bool (nanB (bitsOf a))) ∧ w' = W) := fun W => by
    have := nan_any a W
    rw [nanW_eq] at this
    exact this
  have HH : Hid (∀ n, Calls Tryd.prog 13 #[] (w.drewN n) fun e w' => e = .returned (.bool true) ∧ ∃ q, w' = w.drewN q) := fun n => head_n w hL n
  have HH0 : Hid (Calls Tryd.prog 13 #[] w fun e w' => e = .returned (.bool true) ∧ ∃ q, w' = w.drewN q) := head_0 w hL
  have hself := order_self (bitsOf a)
  have hs1 : (FloatKind.f64.format.order (bitsOf a) (bitsOf a) == some Ordering.eq) = !nanB (bitsOf a) := hself
  have hs2 : (FloatKind.f64.format.order (bitsOf a) (bitsOf a) != some Ordering.eq) = nanB (bitsOf a) := by rw [bne, hs1, Bool.not_not]
  clear hself
  cases hn : nanB (bitsOf a)
  · have HW : Hid (∀ W, Calls Tryd.prog 20 #[.float .f64 (bitsOf a)] W fun e w' => e = .returned (.int .i64 a) ∧ w' = W) := fun W => by
      have := word_any (bitsOf a) W
      unfold wordOf at this
      rw [hn, if_neg Bool.false_ne_true] at this
      have e : wrap64 (bitsOf a) = a := by
        rw [bitsOf_eq]; unfold wrap64; obtain ⟨h0, h1⟩ := ha; omega
      rw [e] at this
      exact this
    rw [hn] at hs1 hs2 HN
    simp only [Bool.not_false] at hs1
    clear ha hn
    generalize bitsOf a = x at *
    go_enter Tryd.func5, Tryd.ntmps5
    go_wp2_with fail
    refine (HF.out _).mono ?_
    rintro e w' ⟨rfl, rfl⟩
    go_wp2_with fail
    refine (HN.out _).mono ?_
    rintro e w' ⟨rfl, rfl⟩
    go_wp2_with fail
    refine (HG.out _).mono ?_
    rintro e w' ⟨rfl, rfl⟩
    go_wp2_with fail
    refine (HW.out _).mono ?_
    rintro e w' ⟨rfl, rfl⟩
    go_wp2_with fail
    refine (HH0.out).mono ?_
    rintro e w' ⟨rfl, q, rfl⟩
    go_wp2
    go_ret
    exact ⟨rfl, _, rfl⟩
  · have HW : Hid (∀ W, Calls Tryd.prog 20 #[.float .f64 (bitsOf a)] W fun e w' => e = .returned (.int .i64 9221120237041090560) ∧ w' = W) := fun W => by
      have := word_any (bitsOf a) W
      unfold wordOf at this
      rw [hn, if_pos rfl] at this
      exact this
    rw [hn] at hs1 hs2 HN
    simp only [Bool.not_true] at hs1
    clear ha hn
    generalize bitsOf a = x at *
    go_enter Tryd.func5, Tryd.ntmps5
    go_wp2_with fail
    refine (HF.out _).mono ?_
    rintro e w' ⟨rfl, rfl⟩
    go_wp2_with fail
    refine (HN.out _).mono ?_
    rintro e w' ⟨rfl, rfl⟩
    go_wp2_with fail
    refine (HW.out _).mono ?_
    rintro e w' ⟨rfl, rfl⟩
    go_wp2_with fail
    refine (HH0.out).mono ?_
    rintro e w' ⟨rfl, q, rfl⟩
    go_wp2
    go_ret
    exact ⟨rfl, _, rfl⟩
end Go.Proofs.YthiopkndbicmkaaDoor

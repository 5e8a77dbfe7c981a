/-
  Which instructions there are; the floats' sums; by contract.
-/
import Derived.Test.YthiopkndbicmkabDoorCa
namespace Go.Proofs.YthiopkndbicmkabDoor
open Go.RowKit
set_option linter.unusedVariables false
set_option linter.unusedSimpArgs false

/-- The table. -/
def tk : List Int := [0, 0, 0, 0, 0, 0, 0, 0, 0, 0, 0, 0, 0, 0, 0, 0, 0, 0, 0, 0, 2, 2, 2, 2, 2, 2, 2, 2, 2, 2, 2, 2, 2, 2, 1, 1, 2, 2, 2, 2, 2, 2, 1, 1, 1, 1]
def Laid (w : World) : Prop := ∀ t, t < 46 → w.cell? ⟨1, t, none⟩ = some (.int .u8 (tk.getD t 0))
theorem laid_drewN {w : World} (h : Laid w) (n : Nat) : Laid (w.drewN n) := h

def hasB (op k : Int) : Bool := decide (0 ≤ op) && decide (op < 46) && (tk.getD op.toNat 0 == k)

set_option maxRecDepth 100000 in
set_option maxHeartbeats 1000000 in
theorem has_any (op k : Int) (w : World) (hL : Laid w) :
    Calls Tryd.prog 26 #[.int .i64 op, .int .u8 k] w fun e w' => e = .returned (.bool (hasB op k)) ∧ ∃ q, w' = w.drewN q := by
  unfold hasB
  by_cases h0 : 0 ≤ op
  · by_cases h1 : op < 46
    · obtain ⟨n, rfl⟩ : ∃ n : Nat, op = (n : Int) := ⟨op.toNat, by omega⟩
      have hc := hL n (by omega)
      rw [decide_eq_true h0, decide_eq_true h1, Int.toNat_natCast]
      have hn : n < 46 := by omega
      generalize tk.getD n 0 = v at *
      go_enter Tryd.func26, Tryd.ntmps26
      go_wp2
      go_ret
      exact ⟨by simp, 0, rfl⟩
    · rw [decide_eq_true h0, decide_eq_false h1]
      have h1' : decide (op < 46) = false := decide_eq_false h1
      go_enter Tryd.func26, Tryd.ntmps26
      go_wp2
      go_ret
      exact ⟨rfl, 0, rfl⟩
  · rw [decide_eq_false h0]
    go_enter Tryd.func26, Tryd.ntmps26
    go_wp2
    go_ret
    exact ⟨rfl, 0, rfl⟩

theorem run_float_none {P : Program} (w : World) (op : BinOp) (t : TypeId) (x y : Nat) (hop : op = .add ∨ op = .sub ∨ op = .mul ∨ op = .quo) (h : floatBits op .f64 x y = none) :
    ∃ r, nanB r = true ∧ r < 18446744073709551616 ∧ (binOp op t (.float .f64 x) (.float .f64 y)).run P w = .ok (.float .f64 r) (w.drewN 1) := by
  refine ⟨Question.cut (.nanBits .f64 x y) (w.tape w.drawn (.nanBits .f64 x y)), ?_, ?_, ?_⟩
  · generalize w.tape w.drawn (.nanBits .f64 x y) = k
    show nanB ((k % 2) * 9223372036854775808 + 9218868437227405312 + 1 + (k / 2) % 4503599627370495) = true
    have h1 : k / 2 % 4503599627370495 < 4503599627370495 := Nat.mod_lt _ (by decide)
    have h2 : k % 2 < 2 := Nat.mod_lt _ (by decide)
    generalize k / 2 % 4503599627370495 = m at *
    generalize k % 2 = s at *
    unfold nanB
    simp only [decide_eq_true_eq]
    rcases (by omega : s = 0 ∨ s = 1) with rfl | rfl <;> omega
  · generalize w.tape w.drawn (.nanBits .f64 x y) = k
    show (k % 2) * 9223372036854775808 + 9218868437227405312 + 1 + (k / 2) % 4503599627370495 < _
    omega
  · unfold floatBits at h
    rcases hop with rfl | rfl | rfl | rfl <;> simp only at h <;> simp [binOp, Op.floatArith, h] <;> rfl

/-- What a float's sum may be. -/
def FRes (op : BinOp) (x y r : Nat) : Prop := r < 18446744073709551616 ∧ ((∃ v, floatBits op .f64 x y = some v ∧ r = v) ∨ (floatBits op .f64 x y = none ∧ nanB r = true))

theorem run_float_res {P : Program} (w : World) (op : BinOp) (t : TypeId) (x y : Nat) (hop : op = .add ∨ op = .sub ∨ op = .mul ∨ op = .quo) :
    ∃ r q, FRes op x y r ∧ (binOp op t (.float .f64 x) (.float .f64 y)).run P w = .ok (.float .f64 r) (w.drewN q) := by
  cases h : floatBits op .f64 x y with
  | none =>
    obtain ⟨r, h1, h2, h3⟩ := run_float_none (P := P) w op t x y hop h
    exact ⟨r, 1, ⟨h2, Or.inr ⟨h, h1⟩⟩, h3⟩
  | some r =>
    refine ⟨r, 0, ⟨?_, Or.inl ⟨r, h, rfl⟩⟩, run_float_arith w op t .f64 x y r h⟩
    have := floatBits_wf h
    simp [Lit.wf] at this
    exact this

/-- The word of a float's sum. -/
def faW (op : BinOp) (x y : Nat) : Int := match floatBits op .f64 x y with
  | some r => wrap64 r
  | none => 9221120237041090560

theorem fres_word {op : BinOp} {x y r : Nat} (h : FRes op x y r) : wordOf r = faW op x y := by
  unfold wordOf faW
  rcases h.2 with ⟨v, hv, rfl⟩ | ⟨hv, hn⟩
  · rw [if_neg (by rw [floatBits_nan hv]; exact Bool.false_ne_true), hv]
  · rw [if_pos hn, hv]

def opF (op : Int) : BinOp := if op = 36 then .add else if op = 37 then .sub else if op = 38 then .mul else .quo

set_option maxRecDepth 100000 in
set_option maxHeartbeats 1000000 in
theorem reckoned_any (op : Int) (x y : Nat) (w : World) :
    Calls Tryd.prog 21 #[.int .i64 op, .float .f64 x, .float .f64 y] w fun e w' => ∃ r, e = .returned (.float .f64 r) ∧ FRes (opF op) x y r ∧ ∃ q, w' = w.drewN q := by
  by_cases h0 : op = 36
  · subst h0
    obtain ⟨r, q, hr, hrun⟩ := run_float_res (P := Tryd.prog) w .add 37 x y (by simp)
    have HR := hid_of hr
    clear hr
    go_enter Tryd.func21, Tryd.ntmps21
    go_wp2
    go_ret
    exact ⟨r, rfl, HR.out, q, rfl⟩
  by_cases h1 : op = 37
  · subst h1
    obtain ⟨r, q, hr, hrun⟩ := run_float_res (P := Tryd.prog) w .sub 37 x y (by simp)
    have HR := hid_of hr
    clear hr
    go_enter Tryd.func21, Tryd.ntmps21
    go_wp2
    go_ret
    exact ⟨r, rfl, HR.out, q, rfl⟩
  by_cases h2 : op = 38
  · subst h2
    obtain ⟨r, q, hr, hrun⟩ := run_float_res (P := Tryd.prog) w .mul 37 x y (by simp)
    have HR := hid_of hr
    clear hr
    go_enter Tryd.func21, Tryd.ntmps21
    go_wp2
    go_ret
    exact ⟨r, rfl, HR.out, q, rfl⟩
  obtain ⟨r, q, hr, hrun⟩ := run_float_res (P := Tryd.prog) w .quo 37 x y (by simp)
  have HR := hid_of hr
  clear hr
  have HO : Hid (opF op = .quo) := by unfold opF; rw [if_neg h0, if_neg h1, if_neg h2]; exact rfl
  go_enter Tryd.func21, Tryd.ntmps21
  go_wp2
  go_ret
  exact ⟨r, rfl, by rw [HO.out]; exact HR.out, q, rfl⟩

/-- A word of 1 or 0. -/
def oneW (b : Bool) : Int := if b then 1 else 0

set_option maxRecDepth 100000 in
set_option maxHeartbeats 1000000 in
theorem oneif_any (b : Bool) (w : World) :
    Calls Tryd.prog 16 #[.bool b] w fun e w' => e = .returned (.int .i64 (oneW b)) ∧ w' = w := by
  cases b
  all_goals (
    go_enter Tryd.func16, Tryd.ntmps16
    go_wp2
    go_ret
    exact ⟨rfl, rfl⟩)

/-- The floats' orders. -/
def feqB (x y : Nat) : Bool := !nanB x && !nanB y && (rankB x == rankB y)
def fltB (x y : Nat) : Bool := !nanB x && !nanB y && decide (rankB x < rankB y)

set_option maxRecDepth 100000 in
set_option maxHeartbeats 1000000 in
theorem cmpf_eq (x y : Nat) (w : World) :
    Calls Tryd.prog 18 #[.int .i64 40, .float .f64 x, .float .f64 y] w fun e w' => e = .returned (.bool (feqB x y)) ∧ w' = w := by
  have h : (FloatKind.f64.format.order x y == some Ordering.eq) = feqB x y := order_eql x y
  go_enter Tryd.func18, Tryd.ntmps18
  go_wp2
  go_ret
  exact ⟨by first | rfl | rw [← h]; rfl, rfl⟩

set_option maxRecDepth 100000 in
set_option maxHeartbeats 1000000 in
theorem cmpf_lt (x y : Nat) (w : World) :
    Calls Tryd.prog 18 #[.int .i64 41, .float .f64 x, .float .f64 y] w fun e w' => e = .returned (.bool (fltB x y)) ∧ w' = w := by
  have h : (FloatKind.f64.format.order x y == some Ordering.lt) = fltB x y := order_lss x y
  go_enter Tryd.func18, Tryd.ntmps18
  go_wp2
  go_ret
  exact ⟨by first | rfl | rw [← h]; rfl, rfl⟩
end Go.Proofs.YthiopkndbicmkabDoor

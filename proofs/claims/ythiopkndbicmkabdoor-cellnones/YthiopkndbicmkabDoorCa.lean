/-
  Words and floats: the small calls by contract.
-/
import Derived.Test.YthiopkndbicmkabDoorFa
import Derived.Test.YthiopkndbicmkabDoorChecked
import Derived.WalkLawsBesides
import Derived.Laws.Externs
import Derived.Deep.QuietTactic
import Derived.BigQuiet
import Derived.WalkSmall
namespace Go.Proofs.YthiopkndbicmkabDoor
open Go.RowKit
set_option linter.unusedVariables false
set_option linter.unusedSimpArgs false

theorem hid_of {p : Prop} (h : p) : Hid p := h

theorem run_frombits (P : Program) (n : Int) (w : World) : (Extern.MathFloatBits.float64frombits #[.int .u64 n]).run P w = .ok (.float .f64 n.toNat) w := rfl
theorem run_tobits (P : Program) (r : Nat) (w : World) : (Extern.MathFloatBits.float64bits #[.float .f64 r]).run P w = .ok (.int .u64 (r : Int)) w := rfl

/-- The bits of a word. -/
def bitsOf (a : Int) : Nat := (IntKind.u64.wrap a).toNat
/-- The word of a float. -/
def wordOf (r : Nat) : Int := if nanB r then 9221120237041090560 else wrap64 r

set_option maxRecDepth 100000 in
set_option maxHeartbeats 1000000 in
theorem float_any (a : Int) (w : World) :
    Calls Tryd.prog 19 #[.int .i64 a] w fun e w' => e = .returned (.float .f64 (bitsOf a)) ∧ w' = w := by
  go_enter Tryd.func19, Tryd.ntmps19
  go_wp2
  rw [run_callFunc_extern Tryd.func27 (by kernel_rfl) (by kernel_rfl) (by kernel_rfl) (e := Extern.MathFloatBits.float64frombits) (by kernel_rfl)]
  rw [run_frombits]
  simp only [Result.andThen]
  rw [Oper.upon_value]
  go_wp2
  go_ret
  exact ⟨rfl, rfl⟩

set_option maxRecDepth 100000 in
set_option maxHeartbeats 1000000 in
theorem isnan_any (r : Nat) (w : World) :
    Calls Tryd.prog 28 #[.float .f64 r] w fun e w' => e = .returned (.bool (nanB r)) ∧ w' = w := by
  have h : (FloatKind.f64.format.order r r != some Ordering.eq) = nanB r := by
    have := order_self r
    rw [bne, show FloatKind.f64.format = Ieee.double from rfl, this, Bool.not_not]
  go_enter Tryd.func28, Tryd.ntmps28
  go_wp2
  go_ret
  exact ⟨rfl, rfl⟩

set_option maxRecDepth 100000 in
set_option maxHeartbeats 1000000 in
theorem word_any (r : Nat) (w : World) :
    Calls Tryd.prog 20 #[.float .f64 r] w fun e w' => e = .returned (.int .i64 (wordOf r)) ∧ w' = w := by
  have H : Hid (∀ W, Calls Tryd.prog 28 #[.float .f64 r] W fun e w' => e = .returned (.bool (nanB r)) ∧ w' = W) := fun W => isnan_any r W
  unfold wordOf
  cases hn : nanB r
  · go_enter Tryd.func20, Tryd.ntmps20
    go_wp2_with fail
    refine (H.out _).mono ?_
    rintro e w' ⟨rfl, rfl⟩
    rw [hn]
    go_wp2
    rw [run_callFunc_extern Tryd.func29 (by kernel_rfl) (by kernel_rfl) (by kernel_rfl) (e := Extern.MathFloatBits.float64bits) (by kernel_rfl), run_tobits]
    simp only [Result.andThen]
    rw [Oper.upon_value]
    go_wp2
    go_ret
    exact ⟨rfl, rfl⟩
  · go_enter Tryd.func20, Tryd.ntmps20
    go_wp2_with fail
    refine (H.out _).mono ?_
    rintro e w' ⟨rfl, rfl⟩
    rw [hn]
    go_wp2
    go_ret
    exact ⟨rfl, rfl⟩

/-- Bits as a number from 0 on. -/
theorem bits_low (a : Int) (k : Nat) (hk : k ≤ 63) : bits .and .i64 a ((2 ^ k - 1 : Nat) : Int) = a % ((2 ^ k : Nat) : Int) := by
  show IntKind.i64.wrap ((BitVec.ofInt 64 a &&& BitVec.ofInt 64 ((2 ^ k - 1 : Nat) : Int)).toNat : Int) = _
  have hp : 2 ^ k ≤ 2 ^ 63 := Nat.pow_le_pow_right (by decide) hk
  have hp1 : 0 < 2 ^ k := Nat.two_pow_pos k
  have h : ((BitVec.ofInt 64 a &&& BitVec.ofInt 64 ((2 ^ k - 1 : Nat) : Int)).toNat : Int) = a % ((2 ^ k : Nat) : Int) := by
    rw [BitVec.toNat_and]
    have e1 : (BitVec.ofInt 64 ((2 ^ k - 1 : Nat) : Int)).toNat = 2 ^ k - 1 := by
      rw [BitVec.toNat_ofInt]; omega
    rw [e1, Nat.and_two_pow_sub_one_eq_mod, BitVec.toNat_ofInt]
    have hd : ((2 ^ k : Nat) : Int) ∣ ((2 ^ 64 : Nat) : Int) := by
      refine ⟨((2 ^ (64 - k) : Nat) : Int), ?_⟩
      rw [← Int.natCast_mul, ← Nat.pow_add]
      congr 2; omega
    rw [Int.natCast_emod, Int.toNat_of_nonneg (by omega)]
    exact Int.emod_emod_of_dvd _ hd
  rw [h]
  have := Int.emod_nonneg a (show ((2 ^ k : Nat) : Int) ≠ 0 by omega)
  have := Int.emod_lt_of_pos a (show (0 : Int) < ((2 ^ k : Nat) : Int) by omega)
  generalize a % ((2 ^ k : Nat) : Int) = m at *
  generalize 2 ^ k = K at *
  simp [IntKind.wrap, IntKind.bits, IntKind.signed]
  omega

theorem bits_11 (a : Int) : bits .and .i64 a 2047 = a % 2048 := bits_low a 11 (by decide)
theorem bits_52 (a : Int) : bits .and .i64 a 4503599627370495 = a % 4503599627370496 := bits_low a 52 (by decide)

/-- A word. -/
def Wd (a : Int) : Prop := -9223372036854775808 ≤ a ∧ a ≤ 9223372036854775807

theorem bitsOf_eq (a : Int) : bitsOf a = (a % 18446744073709551616).toNat := rfl

theorem bitsOf_lt (a : Int) : bitsOf a < 18446744073709551616 := by rw [bitsOf_eq]; omega

/-- Is the word's float not a number? -/
def nanW (a : Int) : Bool := a / 4503599627370496 % 2048 == 2047 && a % 4503599627370496 != 0

theorem nanW_eq (a : Int) : nanW a = nanB (bitsOf a) := by
  unfold nanW nanB
  rw [bitsOf_eq]
  rw [Bool.eq_iff_iff]
  simp only [Bool.and_eq_true, beq_iff_eq, bne_iff_ne, ne_eq, decide_eq_true_eq]
  omega

set_option maxRecDepth 100000 in
set_option maxHeartbeats 1000000 in
theorem power_any (a : Int) (w : World) :
    Calls Tryd.prog 22 #[.int .i64 a] w fun e w' => e = .returned (Value.tuple #[.int .i64 (a / 4503599627370496 % 2048), .int .i64 (a % 4503599627370496)]) ∧ w' = w := by
  go_enter Tryd.func22, Tryd.ntmps22
  go_wp2
  rw [bits_11, bits_52]
  go_ret2
  exact ⟨rfl, rfl⟩

set_option maxRecDepth 100000 in
set_option maxHeartbeats 1000000 in
theorem nan_any (a : Int) (w : World) :
    Calls Tryd.prog 6 #[.int .i64 a] w fun e w' => e = .returned (.bool (nanW a)) ∧ w' = w := by
  have H : Hid (∀ W, Calls Tryd.prog 22 #[.int .i64 a] W fun e w' => e = .returned (Value.tuple #[.int .i64 (a / 4503599627370496 % 2048), .int .i64 (a % 4503599627370496)]) ∧ w' = W) := fun W => power_any a W
  go_enter Tryd.func6, Tryd.ntmps6
  go_wp2_with fail
  refine (H.out _).mono ?_
  rintro e w' ⟨rfl, rfl⟩
  have hn : nanW a = (a / 4503599627370496 % 2048 == 2047 && a % 4503599627370496 != 0) := rfl
  have HN := hid_of hn
  clear hn
  generalize a / 4503599627370496 % 2048 = p at *
  generalize a % 4503599627370496 = m at *
  go_wp2
  all_goals go_ret
  all_goals exact ⟨by rw [HN.out]; simp [*], rfl⟩

end Go.Proofs.YthiopkndbicmkabDoor

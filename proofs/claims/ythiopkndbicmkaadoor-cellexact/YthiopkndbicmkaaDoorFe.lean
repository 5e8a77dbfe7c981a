/-
  Products, quotients and roots of whole numbers, as floats.
-/
import Derived.Test.YthiopkndbicmkaaDoorFd
namespace Go.Proofs.YthiopkndbicmkaaDoor
open Go.RowKit Ieee
set_option linter.unusedVariables false
set_option linter.unusedSimpArgs false

theorem rung_low (x : Nat) (s : Bool) (M k : Nat) (hr : double.read x = .number s M (-(k : Int))) : rungB x < 4890909195324358656 := by
  have h := read_eq x
  rw [hr] at h
  clear hr
  generalize rungB x = r at *
  by_cases c1 : r < 4503599627370496
  · omega
  · rw [if_neg c1] at h
    by_cases c2 : r < 9218868437227405312
    · rw [if_pos c2] at h
      have h3 := (Datum.number.inj h).2.2
      clear h
      omega
    · rw [if_neg c2] at h
      by_cases c3 : r = 9218868437227405312
      · rw [if_pos c3] at h; cases h
      · rw [if_neg c3] at h; cases h

theorem cut_low (x : Nat) (h : rungB x < 4890909195324358656) : cutIn x = true := by
  have hn : nanB x = false := decide_eq_false (by show ¬ _ < rungB x; omega)
  unfold cutIn rankB
  rw [hn]
  generalize rungB x = r at *
  cases negB x
  · rw [if_neg Bool.false_ne_true, decide_eq_true (by omega), decide_eq_true (by omega)]; rfl
  · rw [if_pos rfl, decide_eq_true (by omega), decide_eq_true (by omega)]; rfl

theorem val_read (x : Nat) (s : Bool) (m k : Nat) (hm : m < 9223372036854775808) (hr : double.read x = .number s (m * 2 ^ k) (-(k : Int))) : floatToIntVal .f64 x .i64 = some (if s then -(m : Int) else (m : Int)) := by
  have hp := Nat.two_pow_pos k
  have e : (m * 2 ^ k * 2 ^ (-(k : Int)).toNat / 2 ^ (-(-(k : Int))).toNat) = m := by
    rw [show (-(k : Int)).toNat = 0 by omega, show (-(-(k : Int))).toNat = k by omega, Nat.pow_zero, Nat.mul_one, Nat.mul_div_cancel _ hp]
  unfold floatToIntVal
  have hdec : FloatKind.f64.decode x = double.read x := rfl
  rw [hdec, hr, toInt_num, e]
  cases s <;> simp [IntKind.min, IntKind.max, IntKind.signed, IntKind.bits] <;> omega

/-- A float that is a whole number is cut to it. -/
theorem ti_read (x : Nat) (hx : x < 18446744073709551616) (s : Bool) (m k : Nat) (hm : m < 9223372036854775808) (hr : double.read x = .number s (m * 2 ^ k) (-(k : Int))) : tiV (wrap64 x) = (if s then -(m : Int) else (m : Int), 0) := by
  have hw : Wd (wrap64 x) := wd_wrap _
  have hb : bitsOf (wrap64 x) = x := bits_wrap x hx
  have hc : cutIn (bitsOf (wrap64 x)) = true := by rw [hb]; exact cut_low x (rung_low x s _ k hr)
  obtain ⟨h1, h2⟩ := toi_in _ hw hc
  rw [hb, val_read x s m k hm hr] at h1
  generalize tiV (wrap64 x) = p at *
  obtain ⟨p1, p2⟩ := p
  dsimp only at h1 h2
  rw [h2, ← Option.some.inj h1]

theorem abs_if (a : Int) : (if decide (a < 0) then -(a.natAbs : Int) else (a.natAbs : Int)) = a := by
  by_cases c : a < 0
  · rw [decide_eq_true c, if_pos rfl]; omega
  · rw [decide_eq_false c, if_neg Bool.false_ne_true]; omega

theorem X_ti (a : Int) (h : a.natAbs < 9007199254740992) : tiV (wrap64 (X a)) = (a, 0) := by
  obtain ⟨k, hr, _⟩ := X_read a h
  rw [ti_read (X a) (X_lt a) _ _ k (by omega) hr, abs_if]

/-- What a product of whole numbers is. -/
def PX (s : Bool) (m : Nat) : Nat := double.nearest s m 0

theorem PX_lt (s : Bool) (m : Nat) : PX s m < 18446744073709551616 := Format.nearest_lt double _ _ _
theorem PX_read (s : Bool) (m : Nat) (h : m < 9007199254740992) : ∃ k : Nat, double.read (PX s m) = .number s (m * 2 ^ k) (-(k : Int)) ∧ (m ≠ 0 → k ≤ 52 ∧ 4503599627370496 ≤ m * 2 ^ k ∧ m * 2 ^ k < 9007199254740992) := by
  unfold PX
  by_cases h0 : m = 0
  · subst h0
    obtain ⟨k, hk⟩ : ∃ k : Nat, k = 1074 := ⟨_, rfl⟩
    refine ⟨k, ?_, fun h => absurd rfl h⟩
    rw [nearest_zero, Nat.zero_mul, show (-(k : Int)) = -1074 by omega]
    exact read_zero _
  · obtain ⟨k, h1, h2, h3, h4⟩ := read_nat s m h0 h
    exact ⟨k, h4, fun _ => ⟨h1, h2, h3⟩⟩
theorem PX_ti (s : Bool) (m : Nat) (h : m < 9007199254740992) : tiV (wrap64 (PX s m)) = (if s then -(m : Int) else (m : Int), 0) := by
  obtain ⟨k, hr, _⟩ := PX_read s m h
  exact ti_read (PX s m) (PX_lt s m) s m k (by omega) hr
theorem PX_scale (s : Bool) (m k : Nat) : double.nearest s (m * 2 ^ k) (-(k : Int)) = PX s m := by
  unfold PX
  by_cases h0 : m = 0
  · subst h0; rw [Nat.zero_mul, nearest_zero, nearest_zero]
  · have := nearest_scale s m k 0 h0
    rw [Int.zero_sub] at this
    exact this

theorem X_mul (c d : Int) (hc : c.natAbs < 9007199254740992) (hd : d.natAbs < 9007199254740992) : double.mul (X c) (X d) = some (PX (decide (c < 0) ^^ decide (d < 0)) (c.natAbs * d.natAbs)) := by
  obtain ⟨i, ri, _⟩ := X_read c hc
  obtain ⟨j, rj, _⟩ := X_read d hd
  unfold Format.mul
  rw [ri, rj]
  show some (double.nearest (decide (c < 0) ^^ decide (d < 0)) (c.natAbs * 2 ^ i * (d.natAbs * 2 ^ j)) (-(i : Int) + -(j : Int))) = _
  congr 1
  have e : c.natAbs * 2 ^ i * (d.natAbs * 2 ^ j) = c.natAbs * d.natAbs * 2 ^ (i + j) := by
    rw [Nat.pow_add, Nat.mul_assoc, Nat.mul_assoc]
    congr 1
    rw [← Nat.mul_assoc, Nat.mul_comm (2 ^ i), Nat.mul_assoc]
  rw [e, show -(i : Int) + -(j : Int) = -((i + j : Nat) : Int) by omega, PX_scale]

theorem log2_52 {n : Nat} (h1 : 4503599627370496 ≤ n) (h2 : n < 9007199254740992) : n.log2 = 52 := by
  rw [Nat.log2_eq_iff (by omega)]
  exact ⟨h1, h2⟩

theorem X_div (s : Bool) (c : Nat) (d : Int) (hd0 : d ≠ 0) (hd : d.natAbs < 9007199254740992) (hm : c * d.natAbs < 9007199254740992) : double.div (PX s (c * d.natAbs)) (X d) = some (PX (s ^^ decide (d < 0)) c) := by
  obtain ⟨i, ri, hi⟩ := PX_read s (c * d.natAbs) hm
  obtain ⟨j, rj, hj⟩ := X_read d hd
  obtain ⟨j1, j2, j3⟩ := hj hd0
  unfold Format.div
  rw [ri, rj]
  have hn0 : d.natAbs * 2 ^ j ≠ 0 := by omega
  have hd1 : 0 < d.natAbs := by omega
  have el := log2_52 j2 j3
  have hq : Datum.quotient (double.fractionBits + 2) (.number s (c * d.natAbs * 2 ^ i) (-(i : Int))) (.number (decide (d < 0)) (d.natAbs * 2 ^ j) (-(j : Int))) =
      some (.number (s ^^ decide (d < 0)) (2 * ((c * d.natAbs * 2 ^ i) <<< (54 + (d.natAbs * 2 ^ j).log2 - (c * d.natAbs * 2 ^ i).log2) / (d.natAbs * 2 ^ j)) + (((c * d.natAbs * 2 ^ i) <<< (54 + (d.natAbs * 2 ^ j).log2 - (c * d.natAbs * 2 ^ i).log2)) % (d.natAbs * 2 ^ j) != 0).toNat) (-(i : Int) - -(j : Int) - ((54 + (d.natAbs * 2 ^ j).log2 - (c * d.natAbs * 2 ^ i).log2 : Nat) : Int) - 1)) := by
    show (if d.natAbs * 2 ^ j = 0 then _ else _) = _
    rw [if_neg hn0]
    rfl
  rw [hq]
  clear hq
  by_cases hc0 : c = 0
  · subst hc0
    rw [Nat.zero_mul, Nat.zero_mul, Nat.zero_shiftLeft, Nat.zero_div, Nat.zero_mod]
    show some (double.nearest (s ^^ decide (d < 0)) 0 _) = _
    rw [nearest_zero]
    unfold PX
    rw [nearest_zero]
  · have hcd : c * d.natAbs ≠ 0 := Nat.mul_ne_zero hc0 (by omega)
    obtain ⟨i1, i2, i3⟩ := hi hcd
    rw [log2_52 i2 i3, el, show 54 + 52 - 52 = 54 from rfl, Nat.shiftLeft_eq]
    have e : c * d.natAbs * 2 ^ i * 2 ^ 54 = c * 2 ^ (i + 54 - j) * (d.natAbs * 2 ^ j) := by
      have : 2 ^ i * 2 ^ 54 = 2 ^ (i + 54 - j) * 2 ^ j := by rw [← Nat.pow_add, ← Nat.pow_add]; congr 1; omega
      calc c * d.natAbs * 2 ^ i * 2 ^ 54 = c * d.natAbs * (2 ^ i * 2 ^ 54) := by rw [Nat.mul_assoc]
        _ = c * d.natAbs * (2 ^ (i + 54 - j) * 2 ^ j) := by rw [this]
        _ = c * 2 ^ (i + 54 - j) * (d.natAbs * 2 ^ j) := by rw [Nat.mul_assoc, Nat.mul_assoc]; congr 1; rw [← Nat.mul_assoc, Nat.mul_comm d.natAbs, Nat.mul_assoc]
    rw [e, Nat.mul_div_cancel _ (by omega), Nat.mul_mod_left]
    show some (double.nearest (s ^^ decide (d < 0)) (2 * (c * 2 ^ (i + 54 - j)) + 0) _) = _
    congr 1
    have e2 : 2 * (c * 2 ^ (i + 54 - j)) + 0 = c * 2 ^ (i + 55 - j) := by
      rw [show i + 55 - j = i + 54 - j + 1 by omega, Nat.pow_succ, Nat.add_zero, Nat.mul_comm 2, Nat.mul_assoc]
    rw [e2, show -(i : Int) - -(j : Int) - ((54 : Nat) : Int) - 1 = -((i + 55 - j : Nat) : Int) by omega, PX_scale]

theorem root_from (n : Nat) : ∀ (todo root : Nat), root * root ≤ n → n < (root + 2 ^ todo) * (root + 2 ^ todo) → Datum.rootFrom n todo root * Datum.rootFrom n todo root ≤ n ∧ n < (Datum.rootFrom n todo root + 1) * (Datum.rootFrom n todo root + 1)
  | 0, root, h1, h2 => ⟨h1, h2⟩
  | todo + 1, root, h1, h2 => by
    show Datum.rootFrom n todo (if (root + 1 <<< todo) * (root + 1 <<< todo) ≤ n then root + 1 <<< todo else root) * _ ≤ n ∧ _
    have e : 1 <<< todo = 2 ^ todo := by rw [Nat.shiftLeft_eq, Nat.one_mul]
    by_cases c : (root + 2 ^ todo) * (root + 2 ^ todo) ≤ n
    · have hr : Datum.rootFrom n (todo + 1) root = Datum.rootFrom n todo (root + 2 ^ todo) := by
        show Datum.rootFrom n todo (if (root + 1 <<< todo) * (root + 1 <<< todo) ≤ n then root + 1 <<< todo else root) = _
        rw [e, if_pos c]
      have := root_from n todo (root + 2 ^ todo) c (by rw [Nat.add_assoc, ← Nat.two_mul, Nat.mul_comm 2, ← Nat.pow_succ]; exact h2)
      rw [← hr] at this
      exact this
    · have hr : Datum.rootFrom n (todo + 1) root = Datum.rootFrom n todo root := by
        show Datum.rootFrom n todo (if (root + 1 <<< todo) * (root + 1 <<< todo) ≤ n then root + 1 <<< todo else root) = _
        rw [e, if_neg c]
      have := root_from n todo root h1 (by omega)
      rw [← hr] at this
      exact this

theorem root_sq (q : Nat) : Datum.rootFrom (q * q) ((q * q).log2 / 2 + 1) 0 = q := by
  have h := root_from (q * q) ((q * q).log2 / 2 + 1) 0 (by omega) (by
    rw [Nat.zero_add, ← Nat.pow_add]
    have h1 : q * q < 2 ^ ((q * q).log2 + 1) := Nat.lt_log2_self
    have h2 : 2 ^ ((q * q).log2 + 1) ≤ 2 ^ ((q * q).log2 / 2 + 1 + ((q * q).log2 / 2 + 1)) := Nat.pow_le_pow_right (by decide) (by omega)
    omega)
  generalize Datum.rootFrom (q * q) ((q * q).log2 / 2 + 1) 0 = r at *
  have h1 : r ≤ q := Nat.mul_self_le_mul_self_iff.1 h.1
  have h2 : q < r + 1 := Nat.mul_self_lt_mul_self_iff.1 h.2
  omega

theorem X_sqrt (c : Nat) (h : c * c < 9007199254740992) : double.sqrt (PX false (c * c)) = some (PX false c) := by
  obtain ⟨k, rk, hk⟩ := PX_read false (c * c) h
  unfold Format.sqrt
  rw [rk]
  by_cases hc : c = 0
  · subst hc
    have hq : Datum.root (double.fractionBits + 2) (.number false (0 * 0 * 2 ^ k) (-(k : Int))) = some (.number false (0 * 0 * 2 ^ k) (-(k : Int))) := by
      show (if 0 * 0 * 2 ^ k = 0 then _ else _) = _
      rw [if_pos (by simp)]
    rw [hq]
    show some (double.nearest false (0 * 0 * 2 ^ k) (-(k : Int))) = _
    rw [PX_scale]
  · have hcc : c * c ≠ 0 := Nat.mul_ne_zero hc hc
    obtain ⟨k1, k2, k3⟩ := hk hcc
    have el := log2_52 k2 k3
    have hq : Datum.root (double.fractionBits + 2) (.number false (c * c * 2 ^ k) (-(k : Int))) =
        (let more := 2 * 54 - (c * c * 2 ^ k).log2
         let more := more + ((-(k : Int) - (more : Int)) % 2).toNat
         let n := (c * c * 2 ^ k) <<< more
         let whole := Datum.rootFrom n (n.log2 / 2 + 1) 0
         some (.number false (2 * whole + (whole * whole != n).toNat) ((-(k : Int) - (more : Int)) / 2 - 1))) := by
      show (if c * c * 2 ^ k = 0 then _ else if false = true then _ else _) = _
      rw [if_neg (by omega), if_neg Bool.false_ne_true]
      rfl
    rw [hq]
    clear hq
    rw [el]
    dsimp only
    have em : 2 * 54 - 52 + ((-(k : Int) - ((2 * 54 - 52 : Nat) : Int)) % 2).toNat = 56 + k % 2 := by omega
    rw [em, Nat.shiftLeft_eq]
    have en : c * c * 2 ^ k * 2 ^ (56 + k % 2) = (c * 2 ^ ((k + 56 + k % 2) / 2)) * (c * 2 ^ ((k + 56 + k % 2) / 2)) := by
      have e1 : 2 ^ k * 2 ^ (56 + k % 2) = 2 ^ ((k + 56 + k % 2) / 2) * 2 ^ ((k + 56 + k % 2) / 2) := by rw [← Nat.pow_add, ← Nat.pow_add]; congr 1; omega
      calc c * c * 2 ^ k * 2 ^ (56 + k % 2) = c * c * (2 ^ k * 2 ^ (56 + k % 2)) := by rw [Nat.mul_assoc]
        _ = c * c * (2 ^ ((k + 56 + k % 2) / 2) * 2 ^ ((k + 56 + k % 2) / 2)) := by rw [e1]
        _ = _ := Nat.mul_mul_mul_comm ..
    rw [en, root_sq]
    have eb : ((c * 2 ^ ((k + 56 + k % 2) / 2)) * (c * 2 ^ ((k + 56 + k % 2) / 2)) != (c * 2 ^ ((k + 56 + k % 2) / 2)) * (c * 2 ^ ((k + 56 + k % 2) / 2))) = false := by simp
    rw [eb]
    show some (double.nearest false (2 * (c * 2 ^ ((k + 56 + k % 2) / 2)) + 0) ((-(k : Int) - ((56 + k % 2 : Nat) : Int)) / 2 - 1)) = _
    congr 1
    have e2 : 2 * (c * 2 ^ ((k + 56 + k % 2) / 2)) + 0 = c * 2 ^ ((k + 56 + k % 2) / 2 + 1) := by
      rw [Nat.pow_succ, Nat.add_zero, Nat.mul_comm 2, Nat.mul_assoc]
    rw [e2, show (-(k : Int) - ((56 + k % 2 : Nat) : Int)) / 2 - 1 = -(((k + 56 + k % 2) / 2 + 1 : Nat) : Int) by omega, PX_scale]
end Go.Proofs.YthiopkndbicmkaaDoor

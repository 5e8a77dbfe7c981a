/-
  PLAIN MATHEMATICS of package mint's forms: how many bytes a number has, its form, the order of forms. Nothing of the dump.
-/
namespace Go.Proofs.Ytffabihenhejfaa.Mth
set_option linter.unusedVariables false

/-- How many bytes a number below 2^64 has without zeros ahead. -/
def sz (u : Int) : Nat :=
  if u < 1 then 0 else if u < 256 then 1 else if u < 65536 then 2 else if u < 16777216 then 3 else if u < 4294967296 then 4
  else if u < 1099511627776 then 5 else if u < 281474976710656 then 6 else if u < 72057594037927936 then 7 else 8

theorem sz_le (u : Int) : sz u ≤ 8 := by unfold sz; (repeat' split) <;> omega

/-- The k lowest bytes, the highest first. -/
def be : Nat → Int → List Int
  | 0, _ => []
  | k + 1, u => (u / (256 : Int) ^ k) % 256 :: be k u

theorem be_length (k : Nat) (u : Int) : (be k u).length = k := by
  induction k with
  | zero => rfl
  | succ k ih => simp [be, ih]

theorem be_get (k : Nat) (u : Int) (i : Nat) (h : i < k) : (be k u)[i]? = some ((u / (256 : Int) ^ (k - 1 - i)) % 256) := by
  induction k generalizing i with
  | zero => omega
  | succ k ih =>
    cases i with
    | zero => simp [be]
    | succ i =>
      simp only [be, List.getElem?_cons_succ]
      rw [ih i (by omega)]
      rw [show k + 1 - 1 - (i + 1) = k - 1 - i from by omega]

theorem be_take_succ (k : Nat) (u : Int) (i : Nat) (h : i < k) : (be k u).take (i + 1) = (be k u).take i ++ [(u / (256 : Int) ^ (k - 1 - i)) % 256] := by
  have hl : i < (be k u).length := by rw [be_length]; exact h
  rw [List.take_succ_eq_append_getElem hl]
  congr 2
  have := be_get k u i h
  rw [List.getElem?_eq_getElem hl] at this
  exact Option.some.inj this

theorem be_byte (k : Nat) (u : Int) : ∀ x ∈ be k u, 0 ≤ x ∧ x ≤ 255 := by
  induction k with
  | zero => intro x hx; cases hx
  | succ k ih =>
    intro x hx
    rcases List.mem_cons.1 hx with rfl | hx
    · omega
    · exact ih x hx

/-- The form of a number. -/
def form (u : Int) : List Int := if u ≤ 247 then [u] else (247 + (sz u : Int)) :: be (sz u) u

theorem form_length (u : Int) (h1 : u < 18446744073709551616) : 1 ≤ (form u).length ∧ (form u).length ≤ 9 := by
  have := sz_le u
  unfold form
  split
  · simp
  · simp [be_length]; exact sz_le u

/-- Does the one stand ahead of the other, byte by byte, and not as its front? -/
def ahead : List Int → List Int → Bool
  | x :: xs, y :: ys => if x = y then ahead xs ys else decide (x < y)
  | _, _ => false

theorem ahead_self (l : List Int) : ahead l l = false := by
  induction l with
  | nil => rfl
  | cons x l ih => simp [ahead, ih]

theorem pow_pos (k : Nat) : (0 : Int) < (256 : Int) ^ k := by
  induction k with
  | zero => decide
  | succ k ih => rw [Int.pow_succ]; omega

/-- Two numbers of the same higher part: their lowest k bytes stand in order as they do. -/
theorem be_ahead (k : Nat) (a b : Int) (h : a / (256 : Int) ^ k = b / (256 : Int) ^ k) (hab : a < b) : ahead (be k a) (be k b) = true ∧ ahead (be k b) (be k a) = false := by
  induction k with
  | zero => simp at h; omega
  | succ k ih =>
    have hp := pow_pos k
    rw [Int.pow_succ, ← Int.ediv_ediv_of_nonneg (by omega), ← Int.ediv_ediv_of_nonneg (by omega)] at h
    have hm := Int.ediv_le_ediv hp (Int.le_of_lt hab)
    simp only [be, ahead]
    by_cases e : a / (256 : Int) ^ k = b / (256 : Int) ^ k
    · have := ih e
      rw [e]
      simp only [if_true]
      exact this
    · generalize a / (256 : Int) ^ k = x at *
      generalize b / (256 : Int) ^ k = y at *
      rw [if_neg (by omega), if_neg (by omega)]
      exact ⟨by simp; omega, by simp; omega⟩

theorem sz_spec (u : Int) (h1 : u < 18446744073709551616) : u < (256 : Int) ^ sz u := by
  unfold sz
  repeat' split
  all_goals (simp only [Int.reducePow]; omega)

theorem sz_cases (u : Int) : (sz u = 0 ∧ u < 1) ∨ (sz u = 1 ∧ 1 ≤ u ∧ u < 256) ∨ (sz u = 2 ∧ 256 ≤ u ∧ u < 65536) ∨ (sz u = 3 ∧ 65536 ≤ u ∧ u < 16777216) ∨ (sz u = 4 ∧ 16777216 ≤ u ∧ u < 4294967296) ∨
    (sz u = 5 ∧ 4294967296 ≤ u ∧ u < 1099511627776) ∨ (sz u = 6 ∧ 1099511627776 ≤ u ∧ u < 281474976710656) ∨ (sz u = 7 ∧ 281474976710656 ≤ u ∧ u < 72057594037927936) ∨ (sz u = 8 ∧ 72057594037927936 ≤ u) := by
  unfold sz
  (repeat' split) <;> omega

theorem sz_mono (a b : Int) (h : a ≤ b) : sz a ≤ sz b := by
  have := sz_cases a
  have := sz_cases b
  omega

/-- P108 of two numbers' forms. -/
theorem form_ahead (a b : Int) (ha : 0 ≤ a) (hab : a < b) (hb : b < 18446744073709551616) : ahead (form a) (form b) = true ∧ ahead (form b) (form a) = false := by
  unfold form
  have hbl := sz_le b
  by_cases a1 : a ≤ 247
  · rw [if_pos a1]
    by_cases b1 : b ≤ 247
    · rw [if_pos b1]
      simp only [ahead]
      rw [if_neg (by omega), if_neg (by omega)]
      exact ⟨by simp; omega, by simp; omega⟩
    · rw [if_neg b1]
      have hs : 1 ≤ sz b := by unfold sz; (repeat' split) <;> omega
      simp only [ahead]
      rw [if_neg (by omega), if_neg (by omega)]
      exact ⟨by simp; omega, by simp; omega⟩
  · rw [if_neg a1, if_neg (by omega)]
    have hm := sz_mono a b (by omega)
    by_cases e : sz a = sz b
    · rw [e]
      simp only [ahead, if_true]
      have ka := sz_spec a (by omega)
      have kb := sz_spec b hb
      rw [e] at ka
      refine be_ahead _ _ _ ?_ hab
      rw [Int.ediv_eq_zero_of_lt ha ka, Int.ediv_eq_zero_of_lt (by omega) kb]
    · simp only [ahead]
      rw [if_neg (by omega), if_neg (by omega)]
      exact ⟨by simp; omega, by simp; omega⟩

end Go.Proofs.Ytffabihenhejfaa.Mth

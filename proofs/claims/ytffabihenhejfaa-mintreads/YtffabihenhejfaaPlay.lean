/-
  What a script of calls tells, as a pure function: Reads within Reads, faults thrown to the Reader that met them.
-/
import Derived.Test.YtffabihenhejfaaXtext
namespace Go.Proofs.Ytffabihenhejfaa
open Go.RowKit
set_option linter.unusedVariables false

/-- A call of a script. -/
structure CV where
  k : Int
  n : Int
  o : Int
  bv : Value
  xs : List Int
def CV.default : CV := ⟨0, 0, 0, .slice none 0 0, []⟩
def CV.cells (c : CV) : List Value := [.int .i64 c.k, .int .i64 c.n, .int .i64 c.o, c.bv]

def lift1 (d : Except Int (Int × List Int)) : Except Int ((Int × List Int) × List Int) :=
  match d with
  | .ok (u, rest) => .ok ((u, []), rest)
  | .error e => .error e
def lift2 (d : Except Int (List Int × List Int)) : Except Int ((Int × List Int) × List Int) :=
  match d with
  | .ok (ys, rest) => .ok ((0, ys), rest)
  | .error e => .error e

/-- One call of a Reader: what it tells (a number, bytes), and what is left; or the fault. -/
def oneD (k n : Int) (xs : List Int) : Except Int ((Int × List Int) × List Int) :=
  if k = 1 then lift1 (numD xs) else if k = 2 then lift1 (intD xs) else if k = 3 then lift1 (boolD xs) else if k = 4 then lift2 (bytesD xs) else if k = 5 then lift2 (bytesD xs)
  else if k = 6 then lift2 (rawD n xs) else if k = 7 then lift1 (mostD n xs) else if k = 8 then .ok (((xs.length : Int), []), xs) else if n = 0 then .ok ((0, []), xs) else .error n

/-- Where a script stands: the bytes that each Reader has left, what was told, what the inner Reads answered, how many Readers there were. -/
structure PS where
  pos : Nat
  rs : List (List Int)
  told : List (Int × Int × List Int)
  rets : List Int
  many : Nat

def callP (c : CV) (s : PS) : PS × Option (Nat × Int) :=
  if 1 ≤ c.k ∧ c.k ≤ 9 then
    match oneD c.k c.n (s.rs.getD (s.rs.length - 1 - (c.o % (s.rs.length : Int)).toNat) []) with
    | .ok (g, rest) => ({ s with rs := s.rs.set (s.rs.length - 1 - (c.o % (s.rs.length : Int)).toNat) rest, told := s.told ++ [(c.k, g.1, g.2)] }, none)
    | .error flt => (s, some (s.rs.length - 1 - (c.o % (s.rs.length : Int)).toNat, flt))
  else (s, none)

def play (calls : List CV) : Nat → Int → PS → PS × Option (Nat × Int)
  | 0, _, s => (s, none)
  | fuel + 1, n, s =>
    if 0 < n ∧ s.pos < calls.length ∧ s.pos < 400 then
      if (calls.getD s.pos CV.default).k = 10 then
        if s.rs.length < 20 then
          match play calls fuel (calls.getD s.pos CV.default).n { s with pos := s.pos + 1, rs := s.rs ++ [(calls.getD s.pos CV.default).xs], many := s.many + 1 } with
          | (t, none) => play calls fuel (n - 1) { t with rs := t.rs.take s.rs.length, rets := t.rets ++ [tailOf (t.rs.getD s.rs.length []).length 0] }
          | (t, some (j, flt)) => if j = s.rs.length then play calls fuel (n - 1) { t with rs := t.rs.take s.rs.length, rets := t.rets ++ [flt] } else (t, some (j, flt))
        else play calls fuel (n - 1) { s with pos := s.pos + 1 }
      else
        match callP (calls.getD s.pos CV.default) { s with pos := s.pos + 1 } with
        | (t, none) => play calls fuel (n - 1) t
        | (t, some jf) => (t, some jf)
    else (s, none)

theorem callP_pos (c : CV) (s : PS) : (callP c s).1.pos = s.pos ∧ (callP c s).1.rs.length = s.rs.length := by
  unfold callP
  by_cases h : 1 ≤ c.k ∧ c.k ≤ 9
  · rw [if_pos h]
    cases oneD c.k c.n (s.rs.getD (s.rs.length - 1 - (c.o % (s.rs.length : Int)).toNat) []) with
    | error flt => exact ⟨rfl, rfl⟩
    | ok p => exact ⟨rfl, by simp⟩
  · rw [if_neg h]; exact ⟨rfl, rfl⟩

/-- Where a script stands is never taken back; no Reader that was there is lost; a level that returns has as many Readers as when it began. -/
theorem play_pos (calls : List CV) (fuel : Nat) : ∀ (n : Int) (s : PS), s.pos ≤ (play calls fuel n s).1.pos ∧ s.rs.length ≤ (play calls fuel n s).1.rs.length ∧ ((play calls fuel n s).2 = none → (play calls fuel n s).1.rs.length = s.rs.length) := by
  induction fuel with
  | zero => intro n s; exact ⟨Nat.le_refl _, Nat.le_refl _, fun _ => rfl⟩
  | succ fuel ih =>
    intro n s
    unfold play
    by_cases h : 0 < n ∧ s.pos < calls.length ∧ s.pos < 400
    · rw [if_pos h]
      generalize calls.getD s.pos CV.default = c
      by_cases h10 : c.k = 10
      · rw [if_pos h10]
        by_cases h20 : s.rs.length < 20
        · rw [if_pos h20]
          have h1 := ih c.n { s with pos := s.pos + 1, rs := s.rs ++ [c.xs], many := s.many + 1 }
          cases hp : play calls fuel c.n { s with pos := s.pos + 1, rs := s.rs ++ [c.xs], many := s.many + 1 } with
          | mk t o =>
            rw [hp] at h1
            dsimp only at h1
            rw [List.length_append, List.length_singleton] at h1
            have htk : (t.rs.take s.rs.length).length = s.rs.length := by rw [List.length_take]; omega
            cases o with
            | none =>
              dsimp only
              have h2 := ih (n - 1) { t with rs := t.rs.take s.rs.length, rets := t.rets ++ [tailOf (t.rs.getD s.rs.length []).length 0] }
              dsimp only at h2
              rw [htk] at h2
              exact ⟨by omega, h2.2.1, h2.2.2⟩
            | some jf =>
              obtain ⟨j, flt⟩ := jf
              dsimp only
              by_cases hj : j = s.rs.length
              · rw [if_pos hj]
                have h2 := ih (n - 1) { t with rs := t.rs.take s.rs.length, rets := t.rets ++ [flt] }
                dsimp only at h2
                rw [htk] at h2
                exact ⟨by omega, h2.2.1, h2.2.2⟩
              · rw [if_neg hj]
                exact ⟨by dsimp only; omega, by dsimp only; omega, fun e => by cases e⟩
        · rw [if_neg h20]
          have h2 := ih (n - 1) { s with pos := s.pos + 1 }
          exact ⟨Nat.le_trans (Nat.le_succ _) h2.1, h2.2⟩
      · rw [if_neg h10]
        have hc := callP_pos c { s with pos := s.pos + 1 }
        cases hp : callP c { s with pos := s.pos + 1 } with
        | mk t o =>
          rw [hp] at hc
          dsimp only at hc
          cases o with
          | none =>
            dsimp only
            have h2 := ih (n - 1) t
            rw [hc.2] at h2
            exact ⟨by omega, h2.2⟩
          | some jf => exact ⟨by dsimp only; omega, by dsimp only; omega, fun e => by cases e⟩
    · rw [if_neg h]; exact ⟨Nat.le_refl _, Nat.le_refl _, fun _ => rfl⟩
end Go.Proofs.Ytffabihenhejfaa

/-
  bits.Len64 and mint.size by contract.
-/
import Derived.Test.YtffabihenhejfaaRows
import Derived.Test.YtffabihenhejfaaMath
import Derived.WalkKit
import Derived.ProofKit
namespace Go.Proofs.Ytffabihenhejfaa
open Go.RowKit
set_option linter.unusedVariables false

/-- Of a table of 256 numbers: the first is 0, all others are 1 to 8. -/
def tabOk (s : ByteArray) : Bool := s.size == 256 && (List.range 256).all fun i => (s.get! i).toNat ≤ 8 && (i == 0) == ((s.get! i).toNat == 0)

theorem tab_at (s : ByteArray) (ok : tabOk s = true) (i : Nat) (h : i < s.size) : (s[i]'h).toNat ≤ 8 ∧ (i = 0 ↔ (s[i]'h).toNat = 0) := by
  unfold tabOk at ok
  simp only [Bool.and_eq_true, List.all_eq_true, List.mem_range, beq_iff_eq, decide_eq_true_eq] at ok
  have h2 := ok.2 i (by omega)
  have e : s.get! i = s[i]'h := by simp [ByteArray.get!, h]; rfl
  rw [e] at h2
  refine ⟨h2.1, ?_⟩
  have := h2.2
  rw [Bool.eq_iff_iff] at this
  simpa using this

/-- What is left of a number behind the halves, and the table's entry: together how many bytes it has. -/
theorem len_close (s : ByteArray) (ok : tabOk s = true) (i : Nat) (h : i < s.size) (m : Int) (u : Int) (h0 : 0 ≤ m) (h1 : m ≤ 56) (h2 : m % 8 = 0)
    (hz : i = 0 → (Mth.sz u : Int) = m / 8) (hn : i ≠ 0 → (Mth.sz u : Int) = m / 8 + 1) :
    ∃ n : Int, Ending.returned (.int .i64 (wrap64 (m + wrap64 ((s[i]'h).toNat : Int)))) = .returned (.int .i64 n) ∧ 0 ≤ n ∧ n ≤ 64 ∧ (n + 7) / 8 = (Mth.sz u : Int) := by
  obtain ⟨t1, t2⟩ := tab_at s ok i h
  refine ⟨m + ((s[i]'h).toNat : Int), ?_, by omega, by omega, ?_⟩
  · congr 2
    simp only [wrap64]
    omega
  · by_cases hi : i = 0
    · have := hz hi; have := t2.1 hi; omega
    · have := hn hi; have : ¬ (s[i]'h).toNat = 0 := fun e => hi (t2.2 e); omega

theorem len_close0 (s : ByteArray) (ok : tabOk s = true) (i : Nat) (h : i < s.size) (u : Int)
    (hz : i = 0 → (Mth.sz u : Int) = 0) (hn : i ≠ 0 → (Mth.sz u : Int) = 1) :
    ∃ n : Int, Ending.returned (.int .i64 (wrap64 (wrap64 ((s[i]'h).toNat : Int)))) = .returned (.int .i64 n) ∧ 0 ≤ n ∧ n ≤ 64 ∧ (n + 7) / 8 = (Mth.sz u : Int) := by
  have := len_close s ok i h 0 u (by omega) (by omega) (by omega) (by simpa using hz) (by simpa using hn)
  simpa using this

set_option maxRecDepth 100000 in
set_option maxHeartbeats 2000000 in
theorem len64_any (u : Int) (w : World) (h0 : 0 ≤ u) (h1 : u < 18446744073709551616) :
    Calls Try.prog 71 #[.int .u64 u] w fun e w' => (∃ n : Int, e = .returned (.int .i64 n) ∧ 0 ≤ n ∧ n ≤ 64 ∧ (n + 7) / 8 = (Mth.sz u : Int)) ∧ w' = w := by
  have hs := Mth.sz_cases u
  by_cases hb : u < 4294967296
  all_goals
    go_enter Try.func71, Try.ntmps71
    go_wp2
    all_goals go_ret
    all_goals (first
      | exact ⟨len_close _ (by decide +kernel) _ _ _ u (by omega) (by omega) (by omega) (by omega) (by omega), rfl⟩
      | exact ⟨len_close0 _ (by decide +kernel) _ _ u (by omega) (by omega), rfl⟩)

set_option maxHeartbeats 400000 in
theorem size_any (u : Int) (w : World) (h0 : 0 ≤ u) (h1 : u < 18446744073709551616) :
    Calls Try.prog 65 #[.int .u64 u] w fun e w' => e = .returned (.int .i64 (Mth.sz u : Int)) ∧ w' = w := by
  go_enter Try.func65, Try.ntmps65
  go_wp2_with (go_at_call 71; refine (len64_any _ _ h0 h1).mono ?_; rintro e w' ⟨⟨n, rfl, hn0, hn1, hn2⟩, rfl⟩; have HN : Hid ((n + 7) / 8 = (Mth.sz u : Int)) := hn2; clear hn2)
  go_ret
  exact ⟨congrArg (fun x => Ending.returned (Value.int .i64 x)) HN.out, rfl⟩
end Go.Proofs.Ytffabihenhejfaa

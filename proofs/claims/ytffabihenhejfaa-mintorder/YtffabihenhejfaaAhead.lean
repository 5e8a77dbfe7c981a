/-
  ahead by contract.
-/
import Derived.Test.YtffabihenhejfaaLook
namespace Go.Proofs.Ytffabihenhejfaa
open Go.RowKit
set_option linter.unusedVariables false

theorem drew3 (w : World) (n m k : Nat) : ((w.drewN n).drewN m).drewN k = w.drewN (n + m + k) := by rw [drew2, drew2]; simp only [Nat.add_assoc]

theorem drop_cons {xs : List Int} {k : Nat} (h : k < xs.length) : xs.drop k = xs.getD k 0 :: xs.drop (k + 1) := by
  rw [List.drop_eq_getElem_cons h]
  simp [List.getD, List.getElem?_eq_getElem h]
theorem ahead_same {xs ys : List Int} {k : Nat} (h1 : k < xs.length) (h2 : k < ys.length) (h : Mth.ahead xs ys = Mth.ahead (xs.drop k) (ys.drop k)) (e : xs.getD k 0 = ys.getD k 0) : Mth.ahead xs ys = Mth.ahead (xs.drop (k + 1)) (ys.drop (k + 1)) := by
  rw [h, drop_cons h1, drop_cons h2, e]
  simp [Mth.ahead]
theorem ahead_unlike {xs ys : List Int} {k : Nat} (h1 : k < xs.length) (h2 : k < ys.length) (h : Mth.ahead xs ys = Mth.ahead (xs.drop k) (ys.drop k)) (e : xs.getD k 0 ≠ ys.getD k 0) : Mth.ahead xs ys = decide (xs.getD k 0 < ys.getD k 0) := by
  rw [h, drop_cons h1, drop_cons h2]
  simp only [Mth.ahead]
  rw [if_neg e]
theorem ahead_end {xs ys : List Int} {k : Nat} (h1 : ¬ k < xs.length ∨ ¬ k < ys.length) (h : Mth.ahead xs ys = Mth.ahead (xs.drop k) (ys.drop k)) : Mth.ahead xs ys = false := by
  rw [h]
  rcases h1 with h1 | h1
  · rw [List.drop_of_length_le (by omega)]
    rfl
  · rw [List.drop_of_length_le (l := ys) (by omega)]
    cases xs.drop k <;> rfl

set_option maxRecDepth 100000 in
set_option maxHeartbeats 1000000 in
theorem ahead_rows (g o c g' o' c' N M : Nat) (xs ys : List Int) (w : World) (hxl : xs.length = N) (hyl : ys.length = M) (hm : N ≤ maxLen) (hx : ∀ i, i < N → w.cell? ⟨g, o + i, none⟩ = some (.int .u8 (xs.getD i 0)))
    (hy : ∀ i, i < M → w.cell? ⟨g', o' + i, none⟩ = some (.int .u8 (ys.getD i 0))) :
    Calls Try.prog 27 #[.slice (some ⟨g, o, none⟩) N c, .slice (some ⟨g', o', none⟩) M c'] w fun e w' => e = .returned (.bool (Mth.ahead xs ys)) ∧ ∃ n, w' = w.drewN n := by
  unfold maxLen at hm
  have HX := hid_of hxl
  have HY := hid_of hyl
  have CX := hid_of hx
  have CY := hid_of hy
  clear hxl hyl hx hy
  go_enter Try.func27, Try.ntmps27
  go_wp2
  go_loopw [5] (fun i wr => ∃ k n : Nat, k ≤ N ∧ i = .int .i64 k ∧ Mth.ahead xs ys = Mth.ahead (xs.drop k) (ys.drop k) ∧ wr = w.drewN n) (fun i _ => N - (intOf i).toNat)
  case atStart => exact ⟨0, 0, Nat.zero_le _, rfl, rfl, rfl⟩
  case round =>
    obtain ⟨k, n, hk, rfl, ht, rfl⟩ := hrel
    have HT := hid_of ht
    clear ht
    by_cases hlt : k < N
    · have hkI : (k : Int) < (N : Int) := by omega
      by_cases hlt2 : k < M
      · have ex := CX.out k hlt
        have ey := CY.out k hlt2
        have hkJ : (k : Int) < (M : Int) := by omega
        have h1 : k < xs.length := by rw [HX.out]; exact hlt
        have h2 : k < ys.length := by rw [HY.out]; exact hlt2
        have HE := hid_of (Classical.em (xs.getD k 0 = ys.getD k 0))
        have TS := hid_of (ahead_same h1 h2 HT.out)
        have NE := hid_of (ahead_unlike h1 h2 HT.out)
        clear CX CY HX HY HT h1 h2
        generalize xs.getD k 0 = x at *
        generalize ys.getD k 0 = y at *
        rcases HE.out with he | he
        · have hb : (x != y) = false := by simp [he]
          have T := hid_of (TS.out he)
          clear TS NE HE he
          go_wp2_with fail
          go_quiet (fail)
          go_wp2
          go_roundw
          case rel => exact ⟨k + 1, n + nq, by omega, by go_num, T.out, by first | rfl | exact drew2 _ _ _⟩
          case measure => simp [intOf]; omega
        · have hb : (x != y) = true := by simp [he]
          have T := hid_of (NE.out he)
          clear TS NE HE he
          go_wp2_with fail
          go_quiet (fail)
          go_wp2_with fail
          go_quiet (fail)
          go_wp2
          go_ret
          refine ⟨?_, _, by first | exact drew3 _ _ _ _ | exact drew2 _ _ _ | rfl⟩
          rw [T.out]
          rfl
      · have hz : decide ((k : Int) < (M : Int)) = false := by simp; omega
        have T := hid_of (ahead_end (k := k) (.inr (by rw [HY.out]; exact hlt2)) HT.out)
        clear HX HY HT CX CY
        go_wp2
        go_ret
        refine ⟨?_, n, rfl⟩
        rw [T.out]
        rfl
    · have T := hid_of (ahead_end (k := k) (.inl (by rw [HX.out]; exact hlt)) HT.out)
      clear HX HY HT CX CY
      go_wp2
      go_ret
      refine ⟨?_, n, rfl⟩
      rw [T.out]
      rfl
end Go.Proofs.Ytffabihenhejfaa

/-
  same (the statements' own) by contract.
-/
import Derived.Test.YtffabihenhejfaaWritten
namespace Go.Proofs.Ytffabihenhejfaa
open Go.RowKit
set_option linter.unusedVariables false

set_option maxRecDepth 100000 in
set_option maxHeartbeats 800000 in
theorem same_items (ga ca gb cb N : Nat) (la lb : List ItV) (w : World) (hm : N ≤ 1000) (ha : la.length = N) (hb : lb.length = N) (hia : ItemsAt w ga la) (hib : ItemsAt w gb lb)
    (hall : ∀ i, i < N → (la.getD i ItV.default).k = (lb.getD i ItV.default).k ∧ ((lb.getD i ItV.default).k ≤ 3 → (la.getD i ItV.default).n = (lb.getD i ItV.default).n) ∧ (3 < (lb.getD i ItV.default).k → (la.getD i ItV.default).xs = (lb.getD i ItV.default).xs) ∧ IsB w (la.getD i ItV.default).bv (la.getD i ItV.default).xs ∧ IsB w (lb.getD i ItV.default).bv (lb.getD i ItV.default).xs ∧ (lb.getD i ItV.default).xs.length ≤ 65536) :
    Calls Try.prog 24 #[.slice (some ⟨ga, 0, none⟩) N ca, .slice (some ⟨gb, 0, none⟩) N cb] w fun e w' => e = .returned (.bool true) ∧ ∃ n, w' = w.drewN n := by
  have HA := hid_of ha
  have HB := hid_of hb
  have HIA := hid_of hia
  have HIB := hid_of hib
  have HALL := hid_of hall
  clear ha hb hia hib hall
  have hlbb : ((N : Int) != (N : Int)) = false := by simp
  go_enter Try.func24, Try.ntmps24
  go_wp2
  go_loopw [5] (fun i wr => ∃ k n : Nat, k ≤ N ∧ i = .int .i64 k ∧ wr = w.drewN n) (fun i _ => N - (intOf i).toNat)
  case atStart => exact ⟨0, 0, Nat.zero_le _, rfl, rfl⟩
  case round =>
    obtain ⟨k, n, hk, rfl, rfl⟩ := hrel
    by_cases hlt : k < N
    · have hltI : (k : Int) < (N : Int) := by omega
      obtain ⟨p0, p1, p2⟩ := HIA.out k (by rw [HA.out]; exact hlt)
      obtain ⟨q0, q1, q2⟩ := HIB.out k (by rw [HB.out]; exact hlt)
      obtain ⟨e1, e2, e3, e4, e5, e6⟩ := HALL.out k hlt
      generalize la.getD k ItV.default = x at *
      generalize lb.getD k ItV.default = y at *
      obtain ⟨xk, xn, xbv, xs⟩ := x
      obtain ⟨yk, yn, ybv, ys⟩ := y
      dsimp only at p0 p1 p2 q0 q1 q2 e1 e2 e3 e4 e5 e6
      subst e1
      have hkk : (xk != xk) = false := by simp
      obtain ⟨xao, xc, rfl⟩ := e4.shape
      obtain ⟨yao, yc, rfl⟩ := e5.shape
      by_cases h3 : xk ≤ 3
      · obtain rfl := e2 h3
        have hnn : (xn != xn) = false := by simp
        have h4 : decide (3 < xk) = false := by simp; omega
        clear e2 e3 e4 e5 HIA HIB HALL
        go_wp2_with fail
        go_quiet (fail)
        go_wp2
        go_roundw
        case rel => exact ⟨k + 1, n + nq, by omega, by go_num, by first | rfl | exact drew2 _ _ _⟩
        case measure => simp [intOf]; omega
      · have h3' : decide (xk ≤ 3) = false := by simp; omega
        have h4 : 3 < xk := by omega
        obtain rfl := e3 h4
        have hs : ∀ a, Calls Try.prog 18 #[.slice xao xs.length xc, .slice yao xs.length yc] (w.drewN (n + a)) fun e w'' => e = .returned (.bool true) ∧ ∃ n1, w'' = w.drewN (n + n1) := by
          intro a
          have h0 := same_any (.slice xao xs.length xc) (.slice yao xs.length yc) xs xs (w.drewN (n + a)) (e4.kept (kept_drewN (Kept.refl (fun _ => False) w) _) (fun _ _ f => f)) (e5.kept (kept_drewN (Kept.refl (fun _ => False) w) _) (fun _ _ f => f)) (by unfold maxLen; omega)
          refine h0.mono ?_
          rintro e w'' ⟨rfl, m, rfl⟩
          exact ⟨by simp, a + m, by rw [drew2, Nat.add_assoc]⟩
        have HS := hid_of hs
        clear e2 e3 e4 e5 HIA HIB HALL hs
        go_wp2_with fail
        go_quiet (first | (go_at_call 18; exact HS.out _))
        go_wp2
        go_roundw
        case rel => exact ⟨k + 1, n + nq, by omega, by go_num, by first | rfl | exact drew2 _ _ _⟩
        case measure => simp [intOf]; omega
    · have hnl : ¬ ((k : Int) < (N : Int)) := by omega
      clear HIA HIB HALL
      go_wp2
      go_ret
      exact ⟨rfl, n, rfl⟩
end Go.Proofs.Ytffabihenhejfaa

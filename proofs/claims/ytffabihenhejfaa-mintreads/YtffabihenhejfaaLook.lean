/-
  Same, ahead by contract.
-/
import Derived.Test.YtffabihenhejfaaForm
import Derived.Deep.QuietTactic
import Derived.BigQuiet
namespace Go.Proofs.Ytffabihenhejfaa
open Go.RowKit
set_option linter.unusedVariables false

/-- A slice of bytes that reads so. -/
def IsB (w : World) (v : Value) (xs : List Int) : Prop :=
  (xs = [] ∧ ∃ ao c, v = .slice ao 0 c) ∨ ∃ g o c, v = .slice (some ⟨g, o, none⟩) xs.length c ∧ ∀ i, i < xs.length → w.cell? ⟨g, o + i, none⟩ = some (.int .u8 (xs.getD i 0))

theorem isB_own {w : World} {base : Nat} {v : Value} {n : Nat} {xs : List Int} (h : w.ownsRow base 5 1 v n (xs.map (Value.int .u8))) : IsB w v xs := by
  have hl := h.1
  simp at hl
  rcases h.2 with ⟨rfl, rfl⟩ | ⟨g, cap, cur, rfl, _⟩
  · exact .inl ⟨List.length_eq_zero_iff.1 hl, _, _, rfl⟩
  · subst hl
    exact .inr ⟨g, 0, cap, rfl, fun i hi => by simpa [Addr.add_lit] using own_cells h i hi⟩

theorem drew2 (w : World) (n m : Nat) : (w.drewN n).drewN m = w.drewN (n + m) := by simp only [World.drewN, Nat.add_assoc]

theorem take_same {xs ys : List Int} {k N : Nat} (hx : xs.length = N) (hy : ys.length = N) (hk : k < N) (h : xs.take k = ys.take k) (he : xs.getD k 0 = ys.getD k 0) : xs.take (k + 1) = ys.take (k + 1) := by
  have h1 : k < xs.length := by omega
  have h2 : k < ys.length := by omega
  rw [List.take_succ_eq_append_getElem h1, List.take_succ_eq_append_getElem h2, h]
  simp [List.getD, List.getElem?_eq_getElem h1, List.getElem?_eq_getElem h2] at he
  rw [he]
theorem take_all {xs ys : List Int} {k N : Nat} (hx : xs.length = N) (hy : ys.length = N) (hk : ¬ k < N) (h : xs.take k = ys.take k) : decide (xs = ys) = true := by
  rw [List.take_of_length_le (by omega), List.take_of_length_le (by omega)] at h
  simpa using h

set_option maxRecDepth 100000 in
set_option maxHeartbeats 1000000 in
theorem same_rows (g o c g' o' c' N : Nat) (xs ys : List Int) (w : World) (hxl : xs.length = N) (hyl : ys.length = N) (hm : N ≤ maxLen) (hx : ∀ i, i < N → w.cell? ⟨g, o + i, none⟩ = some (.int .u8 (xs.getD i 0)))
    (hy : ∀ i, i < N → w.cell? ⟨g', o' + i, none⟩ = some (.int .u8 (ys.getD i 0))) :
    Calls Try.prog 18 #[.slice (some ⟨g, o, none⟩) N c, .slice (some ⟨g', o', none⟩) N c'] w fun e w' => e = .returned (.bool (decide (xs = ys))) ∧ ∃ n, w' = w.drewN n := by
  unfold maxLen at hm
  have HX := hid_of hxl
  have HY := hid_of hyl
  have CX := hid_of hx
  have CY := hid_of hy
  clear hxl hyl hx hy
  go_enter Try.func18, Try.ntmps18
  go_wp2
  go_loopw [5] (fun i wr => ∃ k n : Nat, k ≤ N ∧ i = .int .i64 k ∧ xs.take k = ys.take k ∧ wr = w.drewN n) (fun i _ => N - (intOf i).toNat)
  case atStart => exact ⟨0, 0, Nat.zero_le _, rfl, rfl, rfl⟩
  case round =>
    obtain ⟨k, n, hk, rfl, ht, rfl⟩ := hrel
    have HT := hid_of ht
    clear ht
    by_cases hlt : k < N
    · have ex := CX.out k hlt
      have ey := CY.out k hlt
      have hkI : (k : Int) < (N : Int) := by omega
      have HE := hid_of (Classical.em (xs.getD k 0 = ys.getD k 0))
      have TS := hid_of (take_same HX.out HY.out hlt HT.out)
      have NE : Hid (xs.getD k 0 ≠ ys.getD k 0 → decide (xs = ys) = false) := fun h => decide_eq_false (fun e => h (by rw [e]))
      clear CX CY HX HY HT
      generalize xs.getD k 0 = x at *
      generalize ys.getD k 0 = y at *
      rcases HE.out with he | he
      · have hb : (x != y) = false := by simp [he]
        have T := hid_of (TS.out he)
        clear TS NE HE he
        go_wp2_with fail
        go_quiet (fail)
        go_wp2
        go_roundw
        case rel => exact ⟨k + 1, n + nq, by omega, by go_num, T.out, by first | rfl | exact drew2 _ _ _⟩
        case measure => simp [intOf]; omega
      · have hb : (x != y) = true := by simp [he]
        have T := hid_of (NE.out he)
        clear TS NE HE he
        go_wp2_with fail
        go_quiet (fail)
        go_wp2
        go_ret
        refine ⟨?_, n + nq, by first | rfl | exact drew2 _ _ _⟩
        rw [T.out]
        rfl
    · have T := hid_of (take_all HX.out HY.out hlt HT.out)
      clear HX HY HT CX CY
      go_wp2
      go_ret
      refine ⟨?_, n, rfl⟩
      rw [T.out]
      rfl

set_option maxRecDepth 100000 in
set_option maxHeartbeats 1000000 in
theorem same_unlike (ao ao' : Option Addr) (n m c c' : Nat) (xs ys : List Int) (w : World) (hxl : xs.length = n) (hyl : ys.length = m) (h : n ≠ m) :
    Calls Try.prog 18 #[.slice ao n c, .slice ao' m c'] w fun e w' => e = .returned (.bool (decide (xs = ys))) ∧ ∃ k, w' = w.drewN k := by
  have e : decide (xs = ys) = false := decide_eq_false (fun e => h (by rw [← hxl, ← hyl, e]))
  rw [e]
  have hb : ((n : Int) != (m : Int)) = true := by simp; omega
  clear hxl hyl e
  go_enter Try.func18, Try.ntmps18
  go_wp2
  go_ret
  exact ⟨rfl, 0, rfl⟩

set_option maxRecDepth 100000 in
set_option maxHeartbeats 1000000 in
theorem same_none (ao ao' : Option Addr) (c c' : Nat) (w : World) :
    Calls Try.prog 18 #[.slice ao 0 c, .slice ao' 0 c'] w fun e w' => e = .returned (.bool true) ∧ ∃ k, w' = w.drewN k := by
  go_enter Try.func18, Try.ntmps18
  go_wp2
  go_loop [5] (fun i => i = .int .i64 0) (fun _ => 0)
  case atStart => rfl
  case round =>
    subst hrel
    go_wp2
    go_ret
    exact ⟨rfl, 0, rfl⟩

theorem same_any (v v' : Value) (xs ys : List Int) (w : World) (hx : IsB w v xs) (hy : IsB w v' ys) (hm : xs.length ≤ maxLen) :
    Calls Try.prog 18 #[v, v'] w fun e w' => e = .returned (.bool (decide (xs = ys))) ∧ ∃ n, w' = w.drewN n := by
  rcases hx with ⟨rfl, ao, c, rfl⟩ | ⟨g, o, c, rfl, hx⟩
  · rcases hy with ⟨rfl, ao', c', rfl⟩ | ⟨g', o', c', rfl, hy⟩
    · exact same_none ao ao' c c' w
    · cases ys with
      | nil => exact same_none _ _ _ _ w
      | cons y ys => exact same_unlike _ _ _ _ _ _ _ _ w rfl rfl (by simp)
  · by_cases hl : xs.length = ys.length
    · rcases hy with ⟨rfl, ao', c', rfl⟩ | ⟨g', o', c', rfl, hy⟩
      · obtain rfl : xs = [] := List.length_eq_zero_iff.1 hl
        exact same_none _ _ _ _ w
      · have := same_rows g o c g' o' c' xs.length xs ys w rfl hl.symm hm hx (fun i hi => hy i (by omega))
        rw [hl] at this ⊢
        exact this
    · rcases hy with ⟨rfl, ao', c', rfl⟩ | ⟨g', o', c', rfl, hy⟩
      · exact same_unlike _ _ _ _ _ _ _ _ w rfl rfl hl
      · exact same_unlike _ _ _ _ _ _ _ _ w rfl rfl hl
end Go.Proofs.Ytffabihenhejfaa

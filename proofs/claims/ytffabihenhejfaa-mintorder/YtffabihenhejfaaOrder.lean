/-
  MintOrder: the walk.
-/
import Derived.Test.YtffabihenhejfaaAhead
import Derived.WalkSmall
namespace Go.Proofs.Ytffabihenhejfaa
open Go.RowKit
set_option linter.unusedVariables false

/-- What is put into a Writer: its bytes are behind what was put; only its own memory is turned. -/
def Put (a : Nat) (v : Value) (l m : List Int) (w : World) (e : Ending) (w' : World) : Prop :=
  e = .returned (.tuple #[]) ∧ ∃ v', Wr w' a v' (l ++ m) ∧ Kept (fun k => k = a ∨ v.ownBlock = some k) w w' ∧ (v'.ownBlock = v.ownBlock ∨ ∃ g, v'.ownBlock = some g ∧ w.heap.size ≤ g)

theorem wform_any (a : Nat) (v : Value) (l : List Int) (u : Int) (w : World) (hw : Wr w a v l) (h0 : 0 ≤ u) (h1 : u < 18446744073709551616) (hfit : l.length + (Mth.form u).length ≤ 4194304) :
    Calls Try.prog 54 #[.pointer (some ⟨a, 0, none⟩), .int .u64 u] w (Put a v l (Mth.form u) w) := by
  unfold Mth.form at hfit ⊢
  by_cases h : u ≤ 247
  · rw [if_pos h] at hfit ⊢
    exact wform_small a v l u w hw h0 h hfit
  · rw [if_neg h] at hfit ⊢
    simp [Mth.be_length] at hfit
    refine wform_big a v l u w hw (by omega) h1 (Mth.sz u) rfl (Mth.sz_le u) ?_ hfit
    have := Mth.sz_cases u
    omega

set_option maxRecDepth 100000 in
set_option maxHeartbeats 1000000 in
theorem num_any (a : Nat) (v : Value) (l : List Int) (n : Int) (w : World) (hw : Wr w a v l) (h0 : 0 ≤ n) (h1 : n < 9223372036854775808) (hfit : l.length + (Mth.form n).length ≤ 4194304) :
    Calls Try.prog 30 #[.pointer (some ⟨a, 0, none⟩), .int .i64 n] w (Put a v l (Mth.form n) w) := by
  have hf := wform_any a v l n w hw h0 (by omega) hfit
  clear hw
  go_enter Try.func30, Try.ntmps30
  go_wp2_with fail
  refine hf.mono ?_
  rintro e w1 ⟨rfl, hp⟩
  go_wp2
  go_end0
  exact ⟨rfl, hp⟩

theorem wr_new (w : World) : Wr (w.alloc (.cells #[.slice none 0 0, .int .i64 0] 78)) w.heap.size (.slice none 0 0) [] :=
  ⟨heap_alloc_new w _, World.ownsRow_nil _ _ _ _, by simp [Value.ownBlock]⟩

set_option maxRecDepth 100000 in
set_option maxHeartbeats 1000000 in
theorem form_any (n : Int) (w : World) (h0 : 0 ≤ n) (h1 : n < 9223372036854775808) :
    Calls Try.prog 26 #[.int .i64 n] w fun e w' => ∃ v', e = .returned v' ∧ w'.ownsRow w.heap.size 5 1 v' (Mth.form n).length ((Mth.form n).map (Value.int .u8)) ∧ Below w.heap.size w w' := by
  have hl := (Mth.form_length n (by omega)).2
  go_enter Try.func26, Try.ntmps26
  go_wp2_with fail
  refine (new_any w).mono ?_
  rintro e w1 ⟨rfl, rfl⟩
  go_wp2_with fail
  refine (num_any w.heap.size (.slice none 0 0) [] n _ (wr_new w) h0 h1 (by simp; omega)).mono ?_
  rintro e w1 ⟨rfl, v1, hw1, hk1, _⟩
  have hb1 : Below w.heap.size w w1 := ((Below.refl _ w).alloc (Nat.le_refl _) _).trans (hk1.below (by simp) (by intro k hk; rcases hk with rfl | hk; exact Nat.le_refl _; cases hk))
  have hd := done_any w.heap.size v1 (Mth.form n) w1 (by simpa using hw1) (by omega)
  have hs := hb1.size
  have HB := hid_of hb1
  clear hw1 hk1 hb1
  go_wp2_with fail
  refine hd.mono ?_
  rintro e w2 ⟨v2, rfl, hown, hb2⟩
  clear hd
  go_wp2
  go_ret
  refine ⟨v2, rfl, ?_, HB.out.trans (hb2.mono hs)⟩
  refine ⟨hown.1, ?_⟩
  rcases hown.2 with h | ⟨g, cap, cur, e, hb, r⟩
  · exact .inl h
  · exact .inr ⟨g, cap, cur, e, by omega, r⟩

theorem ahead_own (v v' : Value) (B B' n m : Nat) (xs ys : List Int) (w : World) (hx : w.ownsRow B 5 1 v n (xs.map (Value.int .u8))) (hy : w.ownsRow B' 5 1 v' m (ys.map (Value.int .u8))) (hn : 1 ≤ n) (hm : 1 ≤ m) (hbig : n ≤ maxLen) :
    Calls Try.prog 27 #[v, v'] w fun e w' => e = .returned (.bool (Mth.ahead xs ys)) ∧ ∃ n, w' = w.drewN n := by
  have lx := hx.1
  have ly := hy.1
  simp at lx ly
  subst lx ly
  rcases isB_own hx with ⟨rfl, _⟩ | ⟨g, o, c, rfl, cx⟩
  · simp at hn
  · rcases isB_own hy with ⟨rfl, _⟩ | ⟨g', o', c', rfl, cy⟩
    · simp at hm
    · exact ahead_rows g o c g' o' c' _ _ xs ys w rfl rfl hbig cx cy

theorem own_drew {w : World} {B n : Nat} {v : Value} {xs : List Value} (h : w.ownsRow B 5 1 v n xs) (k : Nat) : (w.drewN k).ownsRow B 5 1 v n xs := h

theorem ahead_two (v v' : Value) (B B' n m : Nat) (xs ys : List Int) (w : World) (hx : w.ownsRow B 5 1 v n (xs.map (Value.int .u8))) (hy : w.ownsRow B' 5 1 v' m (ys.map (Value.int .u8))) (hn : 1 ≤ n) (hm : 1 ≤ m) (hbig : n ≤ maxLen) (k : Nat) :
    Calls Try.prog 27 #[v, v'] (w.drewN k) fun e w' => e = .returned (.bool (Mth.ahead xs ys)) ∧ ∃ n, w' = w.drewN n :=
  (ahead_own v v' B B' n m xs ys (w.drewN k) (own_drew hx k) (own_drew hy k) hn hm hbig).mono fun _ w' ⟨h, j, e⟩ => ⟨h, k + j, e.trans (drew2 _ _ _)⟩

/-- Behind the signs: two numbers from 0 on. -/
theorem order_fact (A B : Int) (hA : 0 ≤ A) (hB : 0 ≤ B) (hA' : A < 9223372036854775808) (hB' : B < 9223372036854775808) (h : A ≠ B) :
    Mth.ahead (Mth.form A) (Mth.form B) = decide (A < B) ∧ Mth.ahead (Mth.form B) (Mth.form A) = decide (B < A) := by
  rcases Int.lt_or_gt_of_ne h with h | h
  · obtain ⟨a, b⟩ := Mth.form_ahead A B hA h (by omega)
    rw [a, b]
    exact ⟨by simp; omega, by simp; omega⟩
  · obtain ⟨a, b⟩ := Mth.form_ahead B A hB h (by omega)
    rw [a, b]
    exact ⟨by simp; omega, by simp; omega⟩

set_option maxRecDepth 100000 in
set_option maxHeartbeats 4000000 in
theorem order_walk (a b : Int) (w : World) (ha : -9223372036854775808 ≤ a) (ha' : a < 9223372036854775808) (hb : -9223372036854775808 ≤ b) (hb' : b < 9223372036854775808) :
    Calls Try.prog 7 #[.int .i64 a, .int .i64 b] w fun e w' => e = .returned (.bool true) ∧ Below w.heap.size w w' := by
  have key : (a < 0 ∧ b < 0) ∨ (a < 0 ∧ 0 ≤ b) ∨ (0 ≤ a ∧ b < 0) ∨ (0 ≤ a ∧ 0 ≤ b) := by omega
  rcases key with ⟨sa, sb⟩ | ⟨sa, sb⟩ | ⟨sa, sb⟩ | ⟨sa, sb⟩
  all_goals
    go_enter Try.func7, Try.ntmps7
    go_wp2_with fail
  all_goals
    first
    | (have sa' : a < 0 := sa; generalize hAe : -(a + 1) = A)
    | (have sa' : 0 ≤ a := sa; generalize hAe : a = A at *)
    first
    | (have sb' : b < 0 := sb; generalize hBe : -(b + 1) = B)
    | (have sb' : 0 ≤ b := sb; generalize hBe : b = B at *)
    have sA : 0 ≤ A := by omega
    have sB : 0 ≤ B := by omega
    have hA' : A < 9223372036854775808 := by omega
    have hB' : B < 9223372036854775808 := by omega
    clear hAe hBe
    have la := Mth.form_length A (by omega)
    have lb := Mth.form_length B (by omega)
    refine (form_any A w sA hA').mono ?_
    rintro e w1 ⟨v1, rfl, ho1, hb1⟩
    have HB1 := hid_of hb1
    have HO1 := hid_of ho1
    clear ho1 hb1
    go_wp2_with fail
    refine (form_any B w1 sB hB').mono ?_
    rintro e w2 ⟨v2, rfl, ho2, hb2⟩
    have ho1 : w2.ownsRow w.heap.size 5 1 v1 (Mth.form A).length ((Mth.form A).map (Value.int .u8)) := (kept_of_below hb2).ownsRow HO1.out (fun g hg => by have := (HO1.out.lt g hg).2; omega)
    have HB : Hid (Below w.heap.size w w2) := HB1.out.trans (hb2.mono HB1.out.size)
    have S := same_any v1 v2 (Mth.form A) (Mth.form B) w2 (isB_own ho1) (isB_own ho2) (by unfold maxLen; omega)
    have HA1 := hid_of (ahead_two v1 v2 _ _ _ _ (Mth.form A) (Mth.form B) w2 ho1 ho2 (by omega) (by omega) (by unfold maxLen; omega))
    have HA2 := hid_of (ahead_two v2 v1 _ _ _ _ (Mth.form B) (Mth.form A) w2 ho2 ho1 (by omega) (by omega) (by unfold maxLen; omega))
    obtain ⟨o1, c1, rfl⟩ := ownsRow_shape ho1
    obtain ⟨o2, c2, rfl⟩ := ownsRow_shape ho2
    clear HB1 HO1 ho1 ho2 hb2
    have FA : Hid (A ≠ B → _) := order_fact A B sA sB hA' hB'
    have FSm : Hid (A = B → decide (Mth.form A = Mth.form B) = true) := fun h => by rw [h]; simp
    generalize Mth.form A = fa at *
    generalize Mth.form B = fb at *
    have h1 : (1 : Int) ≤ (fa.length : Int) := by omega
    have h2 : (fa.length : Int) ≤ 9 := by omega
    have h3 : (1 : Int) ≤ (fb.length : Int) := by omega
    have h4 : (fb.length : Int) ≤ 9 := by omega
    by_cases hab : A = B
    · rw [FSm.out hab] at S
      clear FA FSm
      have hq : (A == B) = true := by simp [hab]
      clear hab
      go_wp2_with fail
      refine S.mono ?_
      rintro e w3 ⟨rfl, n, rfl⟩
      go_wp2
      go_ret
      exact ⟨rfl, below_drewN HB.out n⟩
    · obtain ⟨f1, f2⟩ := FA.out hab
      rw [f1] at HA1
      rw [f2] at HA2
      clear FA FSm S f1 f2
      have hq : (A == B) = false := by simp [hab]
      clear hab
      go_wp2_with fail
      refine (HA1.out 0).mono ?_
      rintro e w3 ⟨rfl, n, rfl⟩
      go_wp2_with fail
      refine (HA2.out n).mono ?_
      rintro e w3 ⟨rfl, m, rfl⟩
      go_wp2
      go_ret
      exact ⟨by simp, below_drewN HB.out m⟩
end Go.Proofs.Ytffabihenhejfaa

/-
  The walk of CellWhole.
-/
import Derived.Test.YthiopkndbicmkaaDoorCl
import Derived.Test.YthiopkndbicmkaaDoorFc
namespace Go.Proofs.YthiopkndbicmkaaDoor
open Go.RowKit
set_option linter.unusedVariables false
set_option linter.unusedSimpArgs false

theorem law_two_n (w : World) (hL : Laid w) (op a b : Int) (n : Nat) : Calls Tryd.prog 22 #[.int .i64 op, .int .i64 a, .int .i64 b] (w.drewN n) fun e w' => e = .returned (.int .i64 (twoL op a b)) ∧ ∃ q, w' = w.drewN q := by
  refine (law_two op a b (w.drewN n) (laid_drewN hL n)).mono ?_
  rintro e w' ⟨rfl, q, rfl⟩
  exact ⟨rfl, n + q, World.drewN_drewN ..⟩
theorem law_one_n (w : World) (hL : Laid w) (op a : Int) (ha : Wd a) (n : Nat) : Calls Tryd.prog 23 #[.int .i64 op, .int .i64 a] (w.drewN n) fun e w' => e = .returned (.int .i64 (oneL op a)) ∧ ∃ q, w' = w.drewN q := by
  refine (law_one op a ha (w.drewN n) (laid_drewN hL n)).mono ?_
  rintro e w' ⟨rfl, q, rfl⟩
  exact ⟨rfl, n + q, World.drewN_drewN ..⟩
theorem two_n (w : World) (hL : Laid w) (op a b : Int) (n : Nat) : Calls Tryd.prog 9 #[.int .i64 op, .int .i64 a, .int .i64 b] (w.drewN n) fun e w' => e = .returned (.tuple #[.int .i64 (twoV op a b).1, .int .i64 (twoV op a b).2]) ∧ ∃ q, w' = w.drewN q := by
  refine Calls.mono (two_any op a b (w.drewN n) (laid_drewN hL n)) ?_
  rintro e w' ⟨rfl, q, rfl⟩
  exact ⟨rfl, n + q, World.drewN_drewN ..⟩
theorem one_n (w : World) (hL : Laid w) (op a : Int) (ha : Wd a) (n : Nat) : Calls Tryd.prog 14 #[.int .i64 op, .int .i64 a] (w.drewN n) fun e w' => e = .returned (.tuple #[.int .i64 (oneV op a).1, .int .i64 (oneV op a).2]) ∧ ∃ q, w' = w.drewN q := by
  refine Calls.mono (one_any op a ha (w.drewN n) (laid_drewN hL n)) ?_
  rintro e w' ⟨rfl, q, rfl⟩
  exact ⟨rfl, n + q, World.drewN_drewN ..⟩

set_option maxRecDepth 100000 in
set_option maxHeartbeats 1000000 in
theorem nearer_any (r b : Int) (hr : Wd r) (hb : Wd b) (h : r.natAbs < b.natAbs) (w : World) :
    Calls Tryd.prog 24 #[.int .i64 r, .int .i64 b] w fun e w' => e = .returned (.bool true) ∧ w' = w := by
  obtain ⟨r0, r1⟩ := hr
  obtain ⟨b0, b1⟩ := hb
  by_cases c1 : 0 < r
  · by_cases c2 : 0 < b
    · have e1 : wrap64 (-r) = -r := by unfold wrap64; omega
      have e2 : wrap64 (-b) = -b := by unfold wrap64; omega
      have e3 : r < b := by omega
      have HE := hid_of e3
      clear h r0 r1 b0 b1
      go_enter Tryd.func24, Tryd.ntmps24
      go_wp2
      all_goals go_ret
      all_goals exact ⟨by have := HE.out; simp <;> omega, rfl⟩
    · have e1 : wrap64 (-r) = -r := by unfold wrap64; omega
      have e3 : b < -r := by omega
      have HE := hid_of e3
      have c2' : decide (0 < b) = false := decide_eq_false c2
      clear h r0 r1 b0 b1
      go_enter Tryd.func24, Tryd.ntmps24
      go_wp2
      all_goals go_ret
      all_goals exact ⟨by have := HE.out; simp <;> omega, rfl⟩
  · have c1' : decide (0 < r) = false := decide_eq_false c1
    by_cases c2 : 0 < b
    · have e2 : wrap64 (-b) = -b := by unfold wrap64; omega
      have e3 : -b < r := by omega
      have HE := hid_of e3
      clear h r0 r1 b0 b1
      go_enter Tryd.func24, Tryd.ntmps24
      go_wp2
      all_goals go_ret
      all_goals exact ⟨by have := HE.out; simp <;> omega, rfl⟩
    · have e3 : b < r := by omega
      have HE := hid_of e3
      have c2' : decide (0 < b) = false := decide_eq_false c2
      clear h r0 r1 b0 b1
      go_enter Tryd.func24, Tryd.ntmps24
      go_wp2
      all_goals go_ret
      all_goals exact ⟨by have := HE.out; simp <;> omega, rfl⟩

/-- The orders, of any two words: numbers that the law's last sentence asks of. -/
structure Ords (a b l g e u v : Int) (sa sb : Bool) : Prop where
  l : twoL 32 a b = l
  g : twoL 32 b a = g
  e : twoL 31 a b = e
  u : twoL 33 a b = u
  v : twoL 33 b a = v
  sa : decide (a < 0) = sa
  sb : decide (b < 0) = sb

theorem ords (a b : Int) (ha : Wd a) (hb : Wd b) : Ords a b 0 0 1 0 0 true true ∨ Ords a b 0 0 1 0 0 false false ∨ Ords a b 1 0 0 1 0 true true ∨ Ords a b 1 0 0 1 0 false false ∨ Ords a b 1 0 0 0 1 true false ∨
    Ords a b 0 1 0 0 1 true true ∨ Ords a b 0 1 0 0 1 false false ∨ Ords a b 0 1 0 1 0 false true := by
  obtain ⟨a0, a1⟩ := ha
  obtain ⟨b0, b1⟩ := hb
  have x := bitsOf_eq a
  have y := bitsOf_eq b
  have key : ∀ l g e u v sa sb, (oneW (decide (a < b)) = l) → (oneW (decide (b < a)) = g) → (oneW (a == b) = e) → (oneW (decide (bitsOf a < bitsOf b)) = u) → (oneW (decide (bitsOf b < bitsOf a)) = v) → decide (a < 0) = sa → decide (b < 0) = sb → Ords a b l g e u v sa sb :=
    fun l g e u v sa sb h1 h2 h3 h4 h5 h6 h7 => ⟨(L_lt a b).trans h1, (L_lt b a).trans h2, (L_eq a b).trans h3, (L_ult a b).trans h4, (L_ult b a).trans h5, h6, h7⟩
  have on : ∀ {c : Prop} [Decidable c], c → oneW (decide c) = 1 := fun h => by rw [decide_eq_true h]; rfl
  have off : ∀ {c : Prop} [Decidable c], ¬ c → oneW (decide c) = 0 := fun h => by rw [decide_eq_false h]; rfl
  have eon : a = b → oneW (a == b) = 1 := fun h => by subst h; simp [oneW]
  have eoff : a ≠ b → oneW (a == b) = 0 := fun h => by simp [oneW, h]
  rcases Int.lt_trichotomy a b with h | h | h
  · by_cases sa : a < 0 <;> by_cases sb : b < 0
    · exact Or.inr (Or.inr (Or.inl (key _ _ _ _ _ _ _ (on h) (off (by omega)) (eoff (by omega)) (on (by omega)) (off (by omega)) (decide_eq_true sa) (decide_eq_true sb))))
    · exact Or.inr (Or.inr (Or.inr (Or.inr (Or.inl (key _ _ _ _ _ _ _ (on h) (off (by omega)) (eoff (by omega)) (off (by omega)) (on (by omega)) (decide_eq_true sa) (decide_eq_false sb))))))
    · omega
    · exact Or.inr (Or.inr (Or.inr (Or.inl (key _ _ _ _ _ _ _ (on h) (off (by omega)) (eoff (by omega)) (on (by omega)) (off (by omega)) (decide_eq_false sa) (decide_eq_false sb)))))
  · by_cases sa : a < 0
    · exact Or.inl (key _ _ _ _ _ _ _ (off (by omega)) (off (by omega)) (eon h) (off (by omega)) (off (by omega)) (decide_eq_true sa) (decide_eq_true (by omega)))
    · exact Or.inr (Or.inl (key _ _ _ _ _ _ _ (off (by omega)) (off (by omega)) (eon h) (off (by omega)) (off (by omega)) (decide_eq_false sa) (decide_eq_false (by omega))))
  · by_cases sa : a < 0 <;> by_cases sb : b < 0
    · exact Or.inr (Or.inr (Or.inr (Or.inr (Or.inr (Or.inl (key _ _ _ _ _ _ _ (off (by omega)) (on h) (eoff (by omega)) (off (by omega)) (on (by omega)) (decide_eq_true sa) (decide_eq_true sb)))))))
    · omega
    · exact Or.inr (Or.inr (Or.inr (Or.inr (Or.inr (Or.inr (Or.inr (key _ _ _ _ _ _ _ (off (by omega)) (on h) (eoff (by omega)) (on (by omega)) (off (by omega)) (decide_eq_false sa) (decide_eq_true sb))))))))
    · exact Or.inr (Or.inr (Or.inr (Or.inr (Or.inr (Or.inr (Or.inl (key _ _ _ _ _ _ _ (off (by omega)) (on h) (eoff (by omega)) (off (by omega)) (on (by omega)) (decide_eq_false sa) (decide_eq_false sb))))))))

set_option maxRecDepth 100000 in
set_option maxHeartbeats 4000000 in
theorem cellWhole_walk (a b : Int) (ha : Wd a) (hb : Wd b) (w : World) (hL : Laid w) : Calls Tryd.prog 6 #[.int .i64 a, .int .i64 b] w (Gone w) := by
  have HT : Hid (∀ op a b n, Calls Tryd.prog 22 #[.int .i64 op, .int .i64 a, .int .i64 b] (w.drewN n) fun e w' => e = .returned (.int .i64 (twoL op a b)) ∧ ∃ q, w' = w.drewN q) := fun op a b n => law_two_n w hL op a b n
  have HN1 : Hid (∀ n, Calls Tryd.prog 23 #[.int .i64 34, .int .i64 a] (w.drewN n) fun e w' => e = .returned (.int .i64 (oneL 34 a)) ∧ ∃ q, w' = w.drewN q) := fun n => law_one_n w hL 34 a ha n
  have HN2 : Hid (∀ n, Calls Tryd.prog 23 #[.int .i64 35, .int .i64 a] (w.drewN n) fun e w' => e = .returned (.int .i64 (oneL 35 a)) ∧ ∃ q, w' = w.drewN q) := fun n => law_one_n w hL 35 a ha n
  have HN3 : Hid (∀ n, Calls Tryd.prog 23 #[.int .i64 35, .int .i64 (oneL 35 a)] (w.drewN n) fun e w' => e = .returned (.int .i64 (oneL 35 (oneL 35 a))) ∧ ∃ q, w' = w.drewN q) := fun n => law_one_n w hL 35 _ (by rw [L_not, not_eq ha]; obtain ⟨h0, h1⟩ := ha; constructor <;> omega) n
  have HH : Hid (∀ n, Calls Tryd.prog 13 #[] (w.drewN n) fun e w' => e = .returned (.bool true) ∧ ∃ q, w' = w.drewN q) := fun n => head_n w hL n
  have e1 := w_undo (b := b) ha
  have e2 := w_neg (a := a)
  have e3 := w_not ha
  by_cases hz : b = 0
  · have HD : Hid (∀ n, Calls Tryd.prog 9 #[.int .i64 23, .int .i64 a, .int .i64 b] (w.drewN n) fun e w' => e = .returned (.tuple #[.int .i64 0, .int .i64 5]) ∧ ∃ q, w' = w.drewN q) := fun n => by
      have := two_n w hL 23 a b n
      rw [show twoV 23 a b = (0, 5) from by subst hz; rfl] at this
      exact this
    have HR : Hid (∀ n, Calls Tryd.prog 9 #[.int .i64 24, .int .i64 a, .int .i64 b] (w.drewN n) fun e w' => e = .returned (.tuple #[.int .i64 0, .int .i64 5]) ∧ ∃ q, w' = w.drewN q) := fun n => by
      have := two_n w hL 24 a b n
      rw [show twoV 24 a b = (0, 5) from by subst hz; rfl] at this
      exact this
    have hz' : (b == 0) = true := by simpa using hz
    clear ha hb hL hz
    go_enter Tryd.func6, Tryd.ntmps6
    go_wp2_with fail
    refine (HT.out _ _ _ 0).mono ?_
    rintro e w' ⟨rfl, q, rfl⟩
    go_wp2_with fail
    refine (HT.out _ _ _ _).mono ?_
    rintro e w' ⟨rfl, q, rfl⟩
    go_wp2_with fail
    refine (HN1.out _).mono ?_
    rintro e w' ⟨rfl, q, rfl⟩
    go_wp2_with fail
    refine (HT.out _ _ _ _).mono ?_
    rintro e w' ⟨rfl, q, rfl⟩
    go_wp2_with fail
    refine (HN2.out _).mono ?_
    rintro e w' ⟨rfl, q, rfl⟩
    go_wp2_with fail
    refine (HN3.out _).mono ?_
    rintro e w' ⟨rfl, q, rfl⟩
    go_wp2_with fail
    refine (HD.out _).mono ?_
    rintro e w' ⟨rfl, q, rfl⟩
    go_wp2_with fail
    refine (HR.out _).mono ?_
    rintro e w' ⟨rfl, q, rfl⟩
    go_wp2_with fail
    refine (HH.out _).mono ?_
    rintro e w' ⟨rfl, q, rfl⟩
    go_wp2
    all_goals go_ret
    all_goals exact ⟨rfl, _, rfl⟩
  · have HD : Hid (∀ n, Calls Tryd.prog 9 #[.int .i64 23, .int .i64 a, .int .i64 b] (w.drewN n) fun e w' => e = .returned (.tuple #[.int .i64 (wrap64 (a.tdiv b)), .int .i64 0]) ∧ ∃ q, w' = w.drewN q) := fun n => by
      have := two_n w hL 23 a b n
      rw [show twoV 23 a b = (wrap64 (a.tdiv b), 0) from by show (if b = 0 then _ else _) = _; rw [if_neg hz]] at this
      exact this
    have HR : Hid (∀ n, Calls Tryd.prog 9 #[.int .i64 24, .int .i64 a, .int .i64 b] (w.drewN n) fun e w' => e = .returned (.tuple #[.int .i64 (a.tmod b), .int .i64 0]) ∧ ∃ q, w' = w.drewN q) := fun n => by
      have := two_n w hL 24 a b n
      rw [show twoV 24 a b = (a.tmod b, 0) from by show (if b = 0 then _ else _) = _; rw [if_neg hz]] at this
      exact this
    have HNE : Hid (∀ n, Calls Tryd.prog 24 #[.int .i64 (a.tmod b), .int .i64 b] (w.drewN n) fun e w' => e = .returned (.bool true) ∧ ∃ q, w' = w.drewN q) := fun n => by
      have hr : Wd (a.tmod b) := by
        have := w_near (a := a) hz
        obtain ⟨h0, h1⟩ := hb
        constructor <;> omega
      exact (nearer_any (a.tmod b) b hr hb (w_near hz) (w.drewN n)).mono fun e w' h => ⟨h.1, n, h.2⟩
    have e4 := w_quo ha hz
    have e5 := w_rsign (a := a) (b := b)
    have e6 := w_andor (a := a) (b := b)
    have e7 := w_xor (b := b) ha
    have e8 := w_orand (a := a) (b := b)
    have hz' : (b == 0) = false := by simpa using hz
    obtain ⟨l, g, e0, u, v, sa, sb, ho, HLast⟩ : ∃ l g e u v sa sb, Ords a b l g e u v sa sb ∧ Hid (l + g + e = 1 ∧ u + v + e = 1 ∧ (0 ≤ l ∧ 0 ≤ g ∧ 0 ≤ e ∧ 0 ≤ u ∧ 0 ≤ v) ∧ ((l == u) = (sa == sb))) := by
      rcases ords a b ha hb with h | h | h | h | h | h | h | h <;> exact ⟨_, _, _, _, _, _, _, h, by unfold Hid; decide⟩
    obtain ⟨o1, o2, o3, o4, o5, o6, o7⟩ := ho
    generalize hr : a.tmod b = r at *
    generalize wrap64 (a.tdiv b) = qq at *
    clear ha hb hL hz hr
    obtain ⟨s1, s2, ⟨s3, s4, s5, s6, s7⟩, s8⟩ := HLast.out
    have b1 : l ≤ 1 := by omega
    have b2 : g ≤ 1 := by omega
    have b3 : e0 ≤ 1 := by omega
    have b4 : u ≤ 1 := by omega
    have b5 : v ≤ 1 := by omega
    obtain ⟨z, s, h1, h2⟩ : ∃ z s : Bool, (r != 0) = z ∧ decide (r < 0) = s ∧ Hid (z = true → s = sa) := by
      refine ⟨_, _, rfl, rfl, ?_⟩
      intro hz
      rcases e5 with h | h
      · rw [h] at hz; exact absurd hz (by decide)
      · rw [h, o6]
    obtain ⟨h2, h3⟩ := h2
    clear e5 HLast
    have h4 : (r == 0) = !z := by rw [← h1, bne, Bool.not_not]
    cases z
    all_goals try (have h5 := h3.out rfl; subst h5)
    all_goals clear h3
    all_goals simp only [Bool.not_true, Bool.not_false] at h4
    all_goals (
    go_enter Tryd.func6, Tryd.ntmps6
    go_wp2_with fail
    refine (HT.out _ _ _ 0).mono ?_
    rintro e w' ⟨rfl, q, rfl⟩
    go_wp2_with fail
    refine (HT.out _ _ _ _).mono ?_
    rintro e w' ⟨rfl, q, rfl⟩
    go_wp2_with fail
    refine (HN1.out _).mono ?_
    rintro e w' ⟨rfl, q, rfl⟩
    go_wp2_with fail
    refine (HT.out _ _ _ _).mono ?_
    rintro e w' ⟨rfl, q, rfl⟩
    go_wp2_with fail
    refine (HN2.out _).mono ?_
    rintro e w' ⟨rfl, q, rfl⟩
    go_wp2_with fail
    refine (HN3.out _).mono ?_
    rintro e w' ⟨rfl, q, rfl⟩
    go_wp2_with fail
    refine (HD.out _).mono ?_
    rintro e w' ⟨rfl, q, rfl⟩
    go_wp2_with fail
    refine (HR.out _).mono ?_
    rintro e w' ⟨rfl, q, rfl⟩
    go_wp2_with fail
    refine (HT.out _ _ _ _).mono ?_
    rintro e w' ⟨rfl, q, rfl⟩
    go_wp2_with fail
    refine (HT.out _ _ _ _).mono ?_
    rintro e w' ⟨rfl, q, rfl⟩
    go_wp2_with fail
    refine (HNE.out _).mono ?_
    rintro e w' ⟨rfl, q, rfl⟩
    go_wp2_with fail
    refine (HT.out _ _ _ _).mono ?_
    rintro e w' ⟨rfl, q, rfl⟩
    go_wp2_with fail
    refine (HT.out _ _ _ _).mono ?_
    rintro e w' ⟨rfl, q, rfl⟩
    go_wp2_with fail
    refine (HT.out _ _ _ _).mono ?_
    rintro e w' ⟨rfl, q, rfl⟩
    go_wp2_with fail
    refine (HT.out _ _ _ _).mono ?_
    rintro e w' ⟨rfl, q, rfl⟩
    go_wp2_with fail
    refine (HT.out _ _ _ _).mono ?_
    rintro e w' ⟨rfl, q, rfl⟩
    go_wp2_with fail
    refine (HT.out _ _ _ _).mono ?_
    rintro e w' ⟨rfl, q, rfl⟩
    go_wp2_with fail
    refine (HT.out _ _ _ _).mono ?_
    rintro e w' ⟨rfl, q, rfl⟩
    go_wp2_with fail
    refine (HT.out _ _ _ _).mono ?_
    rintro e w' ⟨rfl, q, rfl⟩
    go_wp2_with fail
    refine (HT.out _ _ _ _).mono ?_
    rintro e w' ⟨rfl, q, rfl⟩
    go_wp2_with fail
    refine (HT.out _ _ _ _).mono ?_
    rintro e w' ⟨rfl, q, rfl⟩
    go_wp2_with fail
    refine (HT.out _ _ _ _).mono ?_
    rintro e w' ⟨rfl, q, rfl⟩
    go_wp2_with fail
    refine (HT.out _ _ _ _).mono ?_
    rintro e w' ⟨rfl, q, rfl⟩
    go_wp2_with fail
    refine (HT.out _ _ _ _).mono ?_
    rintro e w' ⟨rfl, q, rfl⟩
    go_wp2_with fail
    refine (HT.out _ _ _ _).mono ?_
    rintro e w' ⟨rfl, q, rfl⟩
    go_wp2_with fail
    refine (HH.out _).mono ?_
    rintro e w' ⟨rfl, q, rfl⟩
    go_wp2
    all_goals go_ret
    all_goals exact ⟨rfl, _, rfl⟩)
end Go.Proofs.YthiopkndbicmkaaDoor

/-
  The order of rows of parts: strict, total; what lies under stands behind, in one run.
-/
import Derived.Test.YthloacakomahaaaParts
namespace Go.Proofs.Ythloacakomahaaa
set_option linter.unusedVariables false
set_option linter.unusedSimpArgs false

theorem bl_irr : ∀ x : List UInt8, Op.bytesLess x x = false
  | [] => rfl
  | a :: x => by
    rw [Op.bytesLess, bl_irr x]
    simp
theorem bl_tri : ∀ x y : List UInt8, x = y ∨ (Op.bytesLess x y = true ∧ Op.bytesLess y x = false) ∨ (Op.bytesLess x y = false ∧ Op.bytesLess y x = true)
  | [], [] => .inl rfl
  | [], b :: y => .inr (.inl ⟨rfl, rfl⟩)
  | a :: x, [] => .inr (.inr ⟨rfl, rfl⟩)
  | a :: x, b :: y => by
    rw [Op.bytesLess, Op.bytesLess]
    rcases Nat.lt_trichotomy a.toNat b.toNat with h | h | h
    · have h1 : a < b := UInt8.lt_iff_toNat_lt.2 h
      have h2 : ¬ b < a := fun e => by have := UInt8.lt_iff_toNat_lt.1 e; omega
      have h3 : (b == a) = false := by rw [beq_eq_false_iff_ne]; exact fun e => by rw [e] at h; omega
      exact .inr (.inl ⟨by simp [h1], by simp [h2, h3]⟩)
    · have e : a = b := UInt8.toNat_inj.1 h
      subst e
      have h2 : ¬ a < a := fun e => by have := UInt8.lt_iff_toNat_lt.1 e; omega
      rcases bl_tri x y with h | ⟨h, h'⟩ | ⟨h, h'⟩
      · exact .inl (by rw [h])
      · exact .inr (.inl ⟨by simp [h], by simp [h', h2]⟩)
      · exact .inr (.inr ⟨by simp [h, h2], by simp [h']⟩)
    · have h1 : b < a := UInt8.lt_iff_toNat_lt.2 h
      have h2 : ¬ a < b := fun e => by have := UInt8.lt_iff_toNat_lt.1 e; omega
      have h3 : (a == b) = false := by rw [beq_eq_false_iff_ne]; exact fun e => by rw [e] at h; omega
      exact .inr (.inr ⟨by simp [h2, h3], by simp [h1]⟩)
theorem bl_trans : ∀ x y z : List UInt8, Op.bytesLess x y = true → Op.bytesLess y z = true → Op.bytesLess x z = true
  | _, [], _, h, _ => by cases ‹List UInt8› <;> simp [Op.bytesLess] at h
  | _, _ :: _, [], _, h => by simp [Op.bytesLess] at h
  | [], _ :: _, _ :: _, _, _ => rfl
  | a :: x, b :: y, c :: z, h1, h2 => by
    rw [Op.bytesLess, Bool.or_eq_true, Bool.and_eq_true, decide_eq_true_eq, beq_iff_eq, UInt8.lt_iff_toNat_lt] at h1 h2 ⊢
    rcases h1 with h1 | ⟨rfl, h1⟩
    · rcases h2 with h2 | ⟨rfl, h2⟩
      · exact .inl (by omega)
      · exact .inl h1
    · rcases h2 with h2 | ⟨rfl, h2⟩
      · exact .inl h2
      · exact .inr ⟨rfl, bl_trans x y z h1 h2⟩

theorem lp_irr : ∀ l : List (List UInt8), ltParts l l = false
  | [] => rfl
  | p :: l => by
    rw [ltParts, if_pos rfl]
    exact lp_irr l
theorem lp_tri : ∀ l m : List (List UInt8), l = m ∨ (ltParts l m = true ∧ ltParts m l = false) ∨ (ltParts l m = false ∧ ltParts m l = true)
  | [], [] => .inl rfl
  | [], _ :: _ => .inr (.inl ⟨rfl, rfl⟩)
  | _ :: _, [] => .inr (.inr ⟨rfl, rfl⟩)
  | p :: l, q :: m => by
    rw [ltParts, ltParts]
    by_cases h : p = q
    · subst h
      rw [if_pos rfl, if_pos rfl]
      rcases lp_tri l m with h | h | h
      · exact .inl (by rw [h])
      · exact .inr (.inl h)
      · exact .inr (.inr h)
    · rw [if_neg h, if_neg (fun e => h e.symm)]
      rcases bl_tri p q with e | e | e
      · exact absurd e h
      · exact .inr (.inl e)
      · exact .inr (.inr e)
theorem lp_trans : ∀ l m n : List (List UInt8), ltParts l m = true → ltParts m n = true → ltParts l n = true
  | [], _, [], h1, h2 => by
    cases ‹List (List UInt8)› <;> simp [ltParts] at h1 h2
  | [], _, _ :: _, _, _ => rfl
  | _ :: _, [], _, h, _ => by simp [ltParts] at h
  | _ :: _, _ :: _, [], _, h => by simp [ltParts] at h
  | p :: l, q :: m, r :: n, h1, h2 => by
    rw [ltParts] at h1 h2 ⊢
    by_cases e1 : p = q
    · subst e1
      rw [if_pos rfl] at h1
      by_cases e2 : p = r
      · subst e2
        rw [if_pos rfl] at h2 ⊢
        exact lp_trans l m n h1 h2
      · rw [if_neg e2] at h2 ⊢
        exact h2
    · rw [if_neg e1] at h1
      by_cases e2 : q = r
      · subst e2
        rw [if_neg e1]
        exact h1
      · rw [if_neg e2] at h2
        have h3 := bl_trans p q r h1 h2
        by_cases e3 : p = r
        · subst e3
          rw [bl_irr] at h3
          cases h3
        · rw [if_neg e3]
          exact h3
/-- What lies under another, and is not it, stands behind it. -/
theorem lp_under : ∀ l m : List (List UInt8), l.isPrefixOf m = true → l ≠ m → ltParts l m = true
  | [], [], _, h => absurd rfl h
  | [], _ :: _, _, _ => rfl
  | _ :: _, [], h, _ => by simp [List.isPrefixOf] at h
  | p :: l, q :: m, h, hn => by
    rw [List.isPrefixOf, Bool.and_eq_true, beq_iff_eq] at h
    rw [ltParts, if_pos h.1]
    exact lp_under l m h.2 (fun e => hn (by rw [h.1, e]))
/-- What stands between one and what lies under it lies under it. -/
theorem lp_between : ∀ l m n : List (List UInt8), l.isPrefixOf n = true → ltParts l m = true → ltParts m n = true → l.isPrefixOf m = true
  | [], _, _, _, _, _ => rfl
  | _ :: _, _, [], h, _, _ => by simp [List.isPrefixOf] at h
  | _ :: _, [], _ :: _, _, h, _ => by simp [ltParts] at h
  | p :: l, q :: m, r :: n, h1, h2, h3 => by
    rw [List.isPrefixOf, Bool.and_eq_true, beq_iff_eq] at h1
    rw [ltParts] at h2 h3
    obtain ⟨rfl, h1⟩ := h1
    by_cases e : p = q
    · subst e
      rw [if_pos rfl] at h2 h3
      rw [List.isPrefixOf, Bool.and_eq_true, beq_iff_eq]
      exact ⟨rfl, lp_between l m n h1 h2 h3⟩
    · rw [if_neg e] at h2
      rw [if_neg (fun h => e h.symm)] at h3
      rcases bl_tri p q with h | h | h
      · exact absurd h e
      · rw [h.2] at h3; cases h3
      · rw [h.1] at h2; cases h2
end Go.Proofs.Ythloacakomahaaa

/-
  What is clean: parts that are names, not too many; parts and their path say each other.
-/
import Derived.Test.YthloacakomahaaaRclean
import Derived.Test.YthloacakomahaaaMatch
namespace Go.Proofs.Ythloacakomahaaa
set_option linter.unusedVariables false
set_option linter.unusedSimpArgs false

theorem name_ok {x : List UInt8} (h : isName x = true) : 1 ≤ x.length ∧ x.length ≤ 64 ∧ x ≠ [46] ∧ x ≠ [46, 46] ∧ x.all okByte = true := by
  simp only [isName, Bool.and_eq_true, decide_eq_true_eq, bne_iff_ne, ne_eq] at h
  exact ⟨h.1.1.1.1, h.1.1.1.2, h.1.1.2, h.1.2, h.2⟩
theorem name_noslash {x : List UInt8} (h : isName x = true) : x.all (· != 47) = true := by
  rw [List.all_eq_true]
  intro b hb
  have := List.all_eq_true.1 (name_ok h).2.2.2.2 b hb
  simp only [okByte, Bool.and_eq_true] at this
  exact this.2

theorem join_cons2 (x y : List UInt8) (r : List (List UInt8)) : joinP (x :: y :: r) = x ++ 47 :: joinP (y :: r) := by
  rw [joinP, joinP, Lib.join_cons, Lib.join_cons, Lib.joinTail, Lib.joinTail, List.map_cons, List.flatten_cons]
  simp

/-- The path of a text's parts is the text. -/
theorem join_split : ∀ l : List UInt8, joinP (splitB l) = l
  | [] => by rw [splitB, joinP, Lib.join_one]
  | c :: l => by
    have ih := join_split l
    obtain ⟨p, ps, e⟩ := splitB_some l
    by_cases hc : c = 47
    · rw [(splitB_cons c l).1 hc, e, join_cons2, ← e, ih, hc]
      rfl
    · rw [(splitB_cons c l).2 hc _ _ e]
      rw [e] at ih
      cases ps with
      | nil =>
        rw [joinP, Lib.join_one] at ih ⊢
        rw [ih]
      | cons q qs =>
        rw [join_cons2] at ih ⊢
        rw [List.cons_append, ih]
theorem join_parts (l : List UInt8) : joinP (partsOf l) = l := by
  rw [partsOf]
  split
  · rename_i h
    rw [h]
    rfl
  · exact join_split l

/-- The parts of a path of names are the names. -/
theorem split_join : ∀ (x : List UInt8) (r : List (List UInt8)), (∀ y ∈ x :: r, isName y = true) → splitB (joinP (x :: r)) = x :: r
  | x, [], h => by
    rw [joinP, Lib.join_one]
    exact split_end x (name_noslash (h x (List.mem_cons_self)))
  | x, y :: r, h => by
    rw [join_cons2, split_mid _ x (name_noslash (h x (List.mem_cons_self))), split_join y r (fun z hz => h z (List.mem_cons_of_mem _ hz))]
theorem parts_join (row : List (List UInt8)) (h : ∀ y ∈ row, isName y = true) : partsOf (joinP row) = row := by
  cases row with
  | nil => rfl
  | cons x r =>
    have hs := split_join x r h
    rw [partsOf, if_neg, hs]
    intro e
    rw [e] at hs
    have h1 := (name_ok (h x (List.mem_cons_self))).1
    rw [splitB, List.cons.injEq] at hs
    rw [← hs.1] at h1
    simp at h1

theorem fold_names : ∀ (xs row : List (List UInt8)), (∀ y ∈ xs, isName y = true) → foldC row xs = .ok (row ++ xs)
  | [], row, _ => by rw [List.append_nil]; rfl
  | x :: xs, row, h => by
    have hx := h x (List.mem_cons_self)
    have ho := name_ok hx
    have e : stepC row x = .ok (row ++ [x]) := by
      rw [stepC, if_neg, if_neg ho.2.2.2.1, if_pos hx]
      intro hh
      rcases hh with rfl | hh
      · simp at ho
      · exact ho.2.2.1 hh
    rw [foldC, e]
    show foldC (row ++ [x]) xs = _
    rw [fold_names xs (row ++ [x]) (fun y hy => h y (List.mem_cons_of_mem _ hy)), List.append_assoc]
    rfl

theorem isClean_iff (l : List UInt8) : isClean l = ((partsOf l).all isName && decide ((partsOf l).length ≤ 32)) := by
  rw [Bool.eq_iff_iff, Bool.and_eq_true, decide_eq_true_eq, List.all_eq_true, isClean, Bool.and_eq_true, beq_iff_eq, beq_iff_eq]
  constructor
  · rintro ⟨h2, h1⟩
    rw [cleanOf] at h1 h2
    split at h2
    · simp at h2
    rename_i hl
    rw [if_neg hl] at h1
    split at h2
    · rename_i e he
      rw [he] at h1
      dsimp only at h1 h2
      subst h2
      subst h1
      rw [partsOf, if_pos rfl] at he
      cases he
    · rename_i row he
      rw [he] at h1
      dsimp only at h1 h2
      split at h2
      · simp at h2
      rename_i h32
      rw [if_neg h32] at h1
      have hn := foldC_names _ _ _ he (fun y h => by cases h)
      have hp := parts_join row hn
      dsimp only at h1
      rw [h1] at hp
      rw [hp]
      exact ⟨hn, by omega⟩
  · rintro ⟨hn, h32⟩
    have hlen : l.length ≤ 4096 := by
      have h1 := joinP_len (partsOf l) hn
      rw [join_parts] at h1
      omega
    have hc : cleanOf l = (l, 0) := by
      rw [cleanOf, if_neg (by omega), fold_names _ _ hn, List.nil_append]
      show (if 32 < (partsOf l).length then ([], 33) else (joinP (partsOf l), 0)) = _
      rw [if_neg (by omega), join_parts]
    rw [hc]
    exact ⟨rfl, rfl⟩
end Go.Proofs.Ythloacakomahaaa

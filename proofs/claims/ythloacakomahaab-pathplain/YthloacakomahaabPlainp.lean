/-
  What patterns take: those of no special byte themselves alone, stars a name each, two stars all.
-/
import Derived.Test.YthloacakomahaabGreedy
namespace Go.Proofs.Ythloacakomahaab
set_option linter.unusedVariables false

theorem pieces_flat : ∀ (n : Nat) (l : List UInt8), l.length ≤ n → (piecesOf l).flatten = l
  | 0, l, h => by
    obtain rfl : l = [] := List.length_eq_zero_iff.1 (by omega)
    rw [pieces_step, if_pos (by simp)]
    rfl
  | n + 1, l, h => by
    rw [pieces_step]
    split
    · simp
    · rename_i hw
      have h1 := wid_pos l
      rw [List.flatten_cons, pieces_flat n _ (by rw [List.length_drop]; omega), List.take_append_drop]

theorem piece_mem {x p : List UInt8} (h : p ∈ piecesOf x) {b : UInt8} (hb : b ∈ p) : b ∈ x := by
  have := List.mem_flatten.2 ⟨p, h, hb⟩
  rwa [pieces_flat x.length x (Nat.le_refl _)] at this

/-- No byte of it says more than itself. -/
def Plain (x : List UInt8) : Prop := ∀ b ∈ x, b ≠ 42 ∧ b ≠ 63

theorem same_lists {α : Type} (d : α) (xs ys : List α) (hl : xs.length = ys.length) (h : ∀ i, i < xs.length → xs.getD i d = ys.getD i d) : xs = ys := by
  refine List.ext_getElem hl fun i h1 h2 => ?_
  have := h i h1
  rwa [← List.getElem_eq_getD (h := h1), ← List.getElem_eq_getD (h := h2)] at this

theorem mem_getD {α : Type} {d : α} {xs : List α} {i : Nat} (h : i < xs.length) : xs.getD i d ∈ xs := by
  rw [← List.getElem_eq_getD (h := h)]
  exact List.getElem_mem h

theorem takes_plain {x : List UInt8} (y : List UInt8) (hx : Plain x) : partTakes x y = (x == y) := by
  have hlo : ∀ i, i < (piecesOf x).length → loS (piecesOf x) i = false := fun i hi => by
    rw [loS, beq_eq_false_iff_ne]
    intro e
    have := piece_mem (mem_getD (d := []) hi) (b := 42) (by rw [e]; simp)
    exact (hx _ this).1 rfl
  have hne : ∀ i, i < (piecesOf x).length → ((piecesOf x).getD i [] == [63]) = false := fun i hi => by
    rw [beq_eq_false_iff_ne]
    intro e
    have := piece_mem (mem_getD (d := []) hi) (b := 63) (by rw [e]; simp)
    exact (hx _ this).2 rfl
  rw [Bool.eq_iff_iff, partTakes, goes_plain _ _ _ _ hlo, beq_iff_eq]
  refine ⟨fun ⟨h1, h2⟩ => ?_, fun h => ?_⟩
  · have e : piecesOf x = piecesOf y := same_lists [] _ _ h1 fun i hi => by
      have := h2 i hi
      rw [taS, hne i hi, Bool.false_or, beq_iff_eq] at this
      exact this
    have e1 := pieces_flat x.length x (Nat.le_refl _)
    rw [e, pieces_flat y.length y (Nat.le_refl _)] at e1
    exact e1.symm
  · subst h
    exact ⟨rfl, fun i hi => by rw [taS, Bool.or_eq_true]; exact .inr (by simp)⟩

theorem takes_star (y : List UInt8) : partTakes [42] y = true := by
  have e : piecesOf [42] = [[42]] := by
    rw [pieces_step, if_pos (show ([42] : List UInt8).length ≤ wid [42] from wid_pos _)]
  rw [partTakes, e]
  exact goes_loose _ _ _ rfl

theorem match_plain {ws : List (List UInt8)} (vs : List (List UInt8)) (h : ∀ x ∈ ws, Plain x) : matchParts ws vs = (ws == vs) := by
  have hlo : ∀ i, i < ws.length → loW ws i = false := fun i hi => by
    rw [loW, beq_eq_false_iff_ne]
    intro e
    exact (h _ (mem_getD (d := []) hi) 42 (by rw [e]; simp)).1 rfl
  rw [Bool.eq_iff_iff, matchParts, goes_plain _ _ _ _ hlo, beq_iff_eq]
  refine ⟨fun ⟨h1, h2⟩ => same_lists [] _ _ h1 fun i hi => ?_, fun e => ?_⟩
  · have := h2 i hi
    rw [taW, takes_plain _ (h _ (mem_getD hi)), beq_iff_eq] at this
    exact this
  · subst e
    exact ⟨rfl, fun i hi => by rw [taW, takes_plain _ (h _ (mem_getD hi))]; simp⟩

theorem match_all (vs : List (List UInt8)) : matchParts [[42, 42]] vs = true := goes_loose _ _ _ rfl

theorem match_stars (n : Nat) (vs : List (List UInt8)) : matchParts (List.replicate n [42]) vs = decide (n = vs.length) := by
  have hg : ∀ i, i < n → (List.replicate n [42]).getD i [] = ([42] : List UInt8) := fun i hi => by
    rw [← List.getElem_eq_getD (h := by simpa using hi), List.getElem_replicate]
  have hlo : ∀ i, i < (List.replicate n ([42] : List UInt8)).length → loW (List.replicate n [42]) i = false := fun i hi => by
    rw [loW, hg i (by simpa using hi)]
    rfl
  rw [Bool.eq_iff_iff, matchParts, goes_plain _ _ _ _ hlo, decide_eq_true_iff, List.length_replicate]
  exact ⟨fun h => h.1, fun h => ⟨h, fun i hi => by rw [taW, hg i hi, takes_star]⟩⟩

theorem plain_parts {l : List UInt8} (h : Plain l) : ∀ x ∈ splitB l, Plain x := by
  have key : ∀ (l x : List UInt8), x ∈ splitB l → ∀ b ∈ x, b ∈ l := by
    intro l
    induction l with
    | nil =>
      intro x hx b hb
      simp [splitB] at hx
      rw [hx] at hb
      exact hb
    | cons c l ih =>
      intro x hx b hb
      obtain ⟨p, ps, e⟩ := splitB_some l
      by_cases hc : c = 47
      · rw [(splitB_cons c l).1 hc] at hx
        rcases List.mem_cons.1 hx with rfl | hx
        · cases hb
        · exact List.mem_cons_of_mem _ (ih x hx b hb)
      · rw [(splitB_cons c l).2 hc _ _ e] at hx
        rcases List.mem_cons.1 hx with rfl | hx
        · rcases List.mem_cons.1 hb with rfl | hb
          · exact List.mem_cons_self
          · exact List.mem_cons_of_mem _ (ih p (by rw [e]; exact List.mem_cons_self) b hb)
        · exact List.mem_cons_of_mem _ (ih x (by rw [e]; exact List.mem_cons_of_mem _ hx) b hb)
  exact fun x hx b hb => h b (key l x hx b hb)
end Go.Proofs.Ythloacakomahaab

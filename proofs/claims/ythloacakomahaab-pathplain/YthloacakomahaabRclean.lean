/-
  The reference's Path, Clean and IsClean by contract.
-/
import Derived.Test.YthloacakomahaabClean
namespace Go.Proofs.Ythloacakomahaab
open Go.RowKit
set_option linter.unusedVariables false
set_option linter.unusedSimpArgs false

theorem split_le' : ∀ (l x : List UInt8), x ∈ splitB l → x.length ≤ l.length
  | [], x, h => by
    simp only [splitB, List.mem_singleton] at h
    rw [h]
    simp
  | c :: l, x, h => by
    obtain ⟨p, ps, e⟩ := splitB_some l
    by_cases hc : c = 47
    · rw [(splitB_cons c l).1 hc] at h
      rcases List.mem_cons.1 h with h | h
      · rw [h]; simp
      · have := split_le' l x h
        simp only [List.length_cons]
        omega
    · rw [(splitB_cons c l).2 hc _ _ e] at h
      rcases List.mem_cons.1 h with h | h
      · have := split_le' l p (by rw [e]; simp)
        rw [h]
        simp only [List.length_cons]
        omega
      · have := split_le' l x (by rw [e]; exact List.mem_cons_of_mem _ h)
        simp only [List.length_cons]
        omega
theorem parts_le' (l x : List UInt8) (h : x ∈ partsOf l) : x.length ≤ l.length := by
  rw [partsOf] at h
  split at h
  · cases h
  · exact split_le' l x h

theorem join_more (row : List (List UInt8)) (x : List UInt8) : joinP (row ++ [x]) = if row = [] then x else joinP row ++ 47 :: x := by
  cases row with
  | nil => rw [if_pos rfl, List.nil_append, joinP, Lib.join_one]
  | cons y r =>
    rw [if_neg (by simp), List.cons_append, joinP, joinP, Lib.join_cons, Lib.join_cons, Lib.joinTail, Lib.joinTail, List.map_append, List.flatten_append]
    simp

theorem drop_take_eq {α : Type} (l : List α) (k : Nat) (x : α) (h : l[k]? = some x) : l.drop k = x :: l.drop (k + 1) := by
  obtain ⟨hlt, hx⟩ := List.getElem?_eq_some_iff.1 h
  rw [List.drop_eq_getElem_cons hlt, hx]

end Go.Proofs.Ythloacakomahaab

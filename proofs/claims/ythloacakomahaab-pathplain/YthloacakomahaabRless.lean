/-
  The reference's Less and Under by contract.
-/
import Derived.Test.YthloacakomahaabRparts
namespace Go.Proofs.Ythloacakomahaab
open Go.RowKit
set_option linter.unusedVariables false
set_option linter.unusedSimpArgs false

/-- A row of one's own as a slice: its cells. -/
theorem own_slice {w : World} {B : Nat} {e : TypeId} {v : Value} {n : Nat} {xs : List Value} (h : w.ownsRow B e 1 v n xs) : ∃ a cap, v = .slice a n cap ∧ n ≤ cap ∧ cap ≤ maxLen ∧ ∀ j u, xs[j]? = some u → ∃ g, a = some ⟨g, 0, none⟩ ∧ B ≤ g ∧ g < w.heap.size ∧ w.cell? ⟨g, j, none⟩ = some u := by
  rcases h.2 with ⟨rfl, rfl⟩ | ⟨g, cap, cur, rfl, hb, hg, h1, h2, h3, h4⟩
  · refine ⟨none, 0, rfl, Nat.le_refl _, Nat.zero_le _, fun j u hj => ?_⟩
    have := h.1
    rw [Nat.zero_mul, List.length_eq_zero_iff] at this
    rw [this] at hj
    simp at hj
  · refine ⟨some ⟨g, 0, none⟩, cap, rfl, h1, h2, fun j u hj => ⟨g, rfl, hb, (Array.getElem?_eq_some_iff.1 hg).1, ?_⟩⟩
    have := h.cells (g := g) rfl j u hj
    rwa [Addr.add_mid, Nat.zero_add] at this

theorem own_len {w : World} {B : Nat} {e : TypeId} {v : Value} {n : Nat} {xs : List Value} (h : w.ownsRow B e 1 v n xs) : xs.length = n := by
  have := h.1
  omega

theorem texts_get (l : List (List UInt8)) (j : Nat) (x : List UInt8) (h : l[j]? = some x) : (texts l)[j]? = some (.string ⟨x.toArray⟩) := by
  rw [texts, List.getElem?_map, h]
  rfl

theorem ltParts_drop : ∀ (k : Nat) (l m : List (List UInt8)), l.take k = m.take k → k ≤ l.length → k ≤ m.length → ltParts l m = ltParts (l.drop k) (m.drop k)
  | 0, l, m, _, _, _ => rfl
  | k + 1, [], m, _, h, _ => by simp at h
  | k + 1, _ :: _, [], _, _, h => by simp at h
  | k + 1, x :: l, y :: m, h, h1, h2 => by
    rw [List.take_succ_cons, List.take_succ_cons, List.cons.injEq] at h
    rw [ltParts, if_pos h.1, List.drop_succ_cons, List.drop_succ_cons]
    exact ltParts_drop k l m h.2 (by simpa using h1) (by simpa using h2)

theorem toList_mk (x : List UInt8) : (⟨x.toArray⟩ : ByteArray).toList = x := by rw [ByteArray.toList_eq]

theorem prefix_drop : ∀ (k : Nat) (l m : List (List UInt8)), l.take k = m.take k → k ≤ l.length → k ≤ m.length → l.isPrefixOf m = (l.drop k).isPrefixOf (m.drop k)
  | 0, l, m, _, _, _ => rfl
  | k + 1, [], m, _, h, _ => by simp at h
  | k + 1, _ :: _, [], _, _, h => by simp at h
  | k + 1, x :: l, y :: m, h, h1, h2 => by
    rw [List.take_succ_cons, List.take_succ_cons, List.cons.injEq] at h
    rw [List.isPrefixOf, h.1, beq_self_eq_true, Bool.true_and, List.drop_succ_cons, List.drop_succ_cons]
    exact prefix_drop k l m h.2 (by simpa using h1) (by simpa using h2)

end Go.Proofs.Ythloacakomahaab

/-
  written, same by contract.
-/
import Derived.Test.YtffabihenhejfabRight
namespace Go.Proofs.Ytffabihenhejfab
open Go.RowKit
set_option linter.unusedVariables false

theorem Good.ok {x : ItV} {w : World} (h : Good x) (hb : IsB w x.bv x.xs) : ItOk w x := ⟨h.1, h.2.1, h.2.2.1, h.2.2.2.1, hb, h.2.2.2.2.2.2.1, h.2.2.2.2.2.2.2⟩

theorem good_item (x : ItV) (hg : Good x) (l : List Int) (hl : l.length + x.enc.length ≤ 4194304) : St.item (.ok l) x.k x.n x.xs = .ok (l ++ x.enc) := by
  rw [item_bytes _ _ _ _ hg.1 hg.2.1, if_neg (by intro h; have := hg.2.2.2.2.1 h.1; omega)]
  exact put_ok _ _ hl

theorem encs_take_succ (its : List ItV) (k : Nat) (h : k < its.length) : encs (its.take (k + 1)) = encs (its.take k) ++ (its.getD k ItV.default).enc := by
  rw [take_snoc its k h]
  simp [encs]

theorem encs_le (its : List ItV) (k : Nat) : (encs (its.take k)).length ≤ (encs its).length := by
  have : encs its = encs (its.take k) ++ encs (its.drop k) := by
    unfold encs
    rw [← List.flatMap_append, List.take_append_drop]
  rw [this, List.length_append]
  omega

theorem run_good (its : List ItV) (hg : ∀ i, i < its.length → Good (its.getD i ItV.default)) (hl : (encs its).length ≤ 4194304) (k : Nat) (hk : k ≤ its.length) : run (its.take k) = .ok (encs (its.take k)) := by
  induction k with
  | zero => rfl
  | succ k ih =>
    have h2 := encs_le its (k + 1)
    rw [encs_take_succ its k (by omega), List.length_append] at h2
    rw [run_take its k (by omega), ih (by omega), encs_take_succ its k (by omega)]
    exact good_item _ (hg k (by omega)) _ (by omega)

/-- The bytes of few things are few. -/
theorem encs_few (its : List ItV) (most : Nat) (hm : most ≤ 8192) (hg : ∀ i, i < its.length → Good (its.getD i ItV.default)) (hx : ∀ i, i < its.length → (its.getD i ItV.default).xs.length ≤ most) : ∀ k, k ≤ its.length → (encs (its.take k)).length ≤ k * (most + 9) := by
  intro k
  induction k with
  | zero => intro _; simp [encs]
  | succ k ih =>
    intro hk
    rw [encs_take_succ its k (by omega), List.length_append]
    have h1 := ih (by omega)
    have h2 : (its.getD k ItV.default).enc.length ≤ most + 9 := by
      obtain ⟨g1, g2, g3, g4, g5, g6, g7, g8⟩ := hg k (by omega)
      have hl := hx k (by omega)
      have f1 := (Mth.form_length (its.getD k ItV.default).n (by omega)).2
      have f2 := (Mth.form_length (fold (its.getD k ItV.default).n) (fold_le _ g3 g4).2).2
      have f3 := (Mth.form_length ((its.getD k ItV.default).xs.length : Int) (by omega)).2
      unfold ItV.enc itemBytes
      (repeat' split) <;> first | omega | (rw [List.length_append]; omega) | (rw [List.length_cons, List.length_nil]; omega)
    rw [Nat.succ_mul]
    omega

end Go.Proofs.Ytffabihenhejfab

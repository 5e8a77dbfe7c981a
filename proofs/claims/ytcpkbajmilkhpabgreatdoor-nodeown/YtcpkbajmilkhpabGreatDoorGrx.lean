/-
  Rows of structs that were handed out: whole elements stored and read.
-/
import Derived.Test.YtcpkbajmilkhpabGreatDoorGrw
import Derived.Deep.MidRow
namespace Go.Proofs.YtcpkbajmilkhpabGreatDoor
open Go.RowKit
set_option linter.unusedVariables false
set_option linter.unusedSimpArgs false

/-- Values stored into a list from o on. -/
def setL : List Value → Nat → List Value → List Value
  | xs, _, [] => xs
  | xs, o, v :: r => setL (xs.set o v) (o + 1) r
theorem setL_app : ∀ (vs A T : List Value), vs.length ≤ T.length → setL (A ++ T) A.length vs = A ++ vs ++ T.drop vs.length
  | [], A, T, _ => by simp [setL]
  | v :: r, A, [], h => by simp at h
  | v :: r, A, x :: T, h => by
    have e : (A ++ x :: T).set A.length v = (A ++ [v]) ++ T := by simp [List.set_append]
    have := setL_app r (A ++ [v]) T (by simpa using h)
    rw [setL, e, show A.length + 1 = (A ++ [v]).length by simp, this]
    simp
theorem setL_len : ∀ (vs xs : List Value) (o : Nat), (setL xs o vs).length = xs.length
  | [], _, _ => rfl
  | v :: r, xs, o => by rw [setL, setL_len, List.length_set]
theorem kept_setCells (g : Nat) : ∀ (vs : List Value) (o : Nat) (w : World), Kept (fun k => k = g) w (w.setCells g o vs)
  | [], _, _ => Kept.refl _ _
  | v :: r, o, w => (kept_set w g o v).trans (kept_setCells g r (o + 1) _)
theorem own_setCells {B e s g n c : Nat} : ∀ (vs : List Value) (o : Nat) (xs : List Value) (w : World), w.ownsRow B e s (.slice (some ⟨g, 0, none⟩) n c) n xs → (w.setCells g o vs).ownsRow B e s (.slice (some ⟨g, 0, none⟩) n c) n (setL xs o vs)
  | [], _, _, _, h => h
  | v :: r, o, xs, w, h => own_setCells r (o + 1) _ _ (World.ownsRow.stored h o v).1
theorem own_there {B e s g n c : Nat} {xs : List Value} {w : World} (h : w.ownsRow B e s (.slice (some ⟨g, 0, none⟩) n c) n xs) (o k : Nat) (hk : o + k ≤ n * s) : w.there g o k := by
  intro j hj
  refine ⟨?_, World.ownsRow.frozenAt h (o + j)⟩
  rw [h.cellAt (o + j) (by omega), List.getElem?_eq_getElem (by rw [h.1]; omega)]
  rfl
theorem own_range {B e s n : Nat} {v : Value} {xs : List Value} {w : World} (h : w.ownsRow B e s v n xs) {g : Nat} (hg : v.ownBlock = some g) (o : Nat) (cs : List Value) (hc : ∀ j u, cs[j]? = some u → xs[o + j]? = some u) : w.rangeAt g o cs := by
  intro j u hu
  exact own_cell (own_mono h (Nat.zero_le _)) hg (o + j) u (hc j u hu)
section
variable {s : Nat} {mk : Nat → Nat → List Value}
/-- What row i holds behind one more element. -/
theorem cAt_any {ls : List RL} {i j n : Nat} (hm : ∀ k, (mk i k).length = s) (hx : (rlAt ls i).xs.length = n * s) (hj : j < n) : setL (cAt mk s ls i j i) (j * s) (mk i j) = cAt mk s ls i (j + 1) i := by
  have h1 : (j + 1) * s ≤ n * s := Nat.mul_le_mul_right _ hj
  rw [Nat.succ_mul] at h1
  have h2 := setL_app (mk i j) (rowOf (mk i) j) ((rlAt ls i).xs.drop (j * s)) (by rw [hm, List.length_drop, hx]; omega)
  rw [rowOf_len hm] at h2
  rw [cAt_self, cAt_self, h2, rowOf_succ, hm, List.drop_drop, Nat.succ_mul]
theorem rowOf_range {mk : Nat → List Value} (h : ∀ k, (mk k).length = s) (k n : Nat) (hk : k < n) : ∀ j u, (mk k)[j]? = some u → (rowOf mk n)[k * s + j]? = some u := by
  intro j u hu
  have hj := (List.getElem?_eq_some_iff.1 hu).1
  rw [rowOf_at h k j (by rw [← h k]; exact hj) n hk]
  exact hu
end
end Go.Proofs.YtcpkbajmilkhpabGreatDoor

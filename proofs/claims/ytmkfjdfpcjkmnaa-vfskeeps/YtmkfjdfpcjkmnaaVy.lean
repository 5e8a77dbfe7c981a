/-
  The law of one file: the walk.
-/
import Derived.Test.YtmkfjdfpcjkmnaaVx
namespace Go.Proofs.Ytmkfjdfpcjkmnaa
open Go.RowKit
set_option linter.unusedVariables false
set_option linter.unusedSimpArgs false
set_option maxRecDepth 100000

def rng (n : Nat) : List Int := (List.range n).map fun i : Nat => (i : Int)
theorem rng_succ (n : Nat) : rng (n + 1) = rng n ++ [(n : Int)] := by simp [rng, List.range_succ]
theorem rng_len (n : Nat) : (rng n).length = n := by simp [rng]
/-- What the laws' rows hold: the handles, the places, the modes, the bytes. -/
def lst (hd : List (Nat × Int)) (xs : List Int) : Nat → List Value := l4 (num (rng hd.length)) (num (hd.map fun x : Nat × Int => (x.1 : Int))) (num (hd.map fun x : Nat × Int => x.2)) (ints xs)
/-- The first loop: as many handles as rounds. -/
def LA (W : World) (s i : Nat) (v8 v9 v10 : Value) (wr : World) : Prop :=
  ∃ σ hd, hd.length = i ∧ (∀ x ∈ hd, x.1 = 0 ∧ (x.2 = 1 ∨ x.2 = 3)) ∧ KSt σ [] hd ∧ RI W wr s σ (v4 v8 v9 v10 (.slice none 0 0)) (lst hd [])
theorem LA.start {W w : World} {s : Nat} {σ : FSt} (hk : Kept (fun _ => False) W w) (hF : Fs w s σ) (ho : ∀ q, σ.own s q → W.heap.size ≤ q) (K : KSt σ [] []) : LA W s 0 (.slice none 0 0) (.slice none 0 0) (.slice none 0 0) w := by
  refine ⟨σ, [], rfl, fun x hx => by simp at hx, K, hk, hF, ho, fun i hi => ?_, fun i hi g hg => ?_, fun i hi j hj hij g hg => ?_⟩
  · match i, hi with
    | 0, _ => exact World.ownsRow_nil _ _ _ _
    | 1, _ => exact World.ownsRow_nil _ _ _ _
    | 2, _ => exact World.ownsRow_nil _ _ _ _
    | 3, _ => exact World.ownsRow_nil _ _ _ _
  · match i, hi, hg with
    | 0, _, hg => cases hg
    | 1, _, hg => cases hg
    | 2, _, hg => cases hg
    | 3, _, hg => cases hg
  · match i, hi, hg with
    | 0, _, hg => cases hg
    | 1, _, hg => cases hg
    | 2, _, hg => cases hg
    | 3, _, hg => cases hg
/-- Numbers put behind the three rows, one after the other. -/
theorem RI.three {W w : World} {s : Nat} {σ : FSt} {v8 v9 v10 wv : Value} {hd : List (Nat × Int)} {xs : List Int} (R : RI W w s σ (v4 v8 v9 v10 wv) (lst hd xs)) (h : hd.length ≤ 1000) (m : Int) :
    ∃ v8' w2 v9' w3 v10' w4, (Builtin.append_ #[44, 44] 44 #[v8, .slice (some ⟨w.heap.size, 0, none⟩) 1 1]).run Try.prog (w.alloc (.cells #[.int .i64 hd.length] 3)) = .ok v8' w2 ∧
      (Builtin.append_ #[44, 44] 44 #[v9, .slice (some ⟨w2.heap.size, 0, none⟩) 1 1]).run Try.prog (w2.alloc (.cells #[.int .i64 0] 3)) = .ok v9' w3 ∧
      (Builtin.append_ #[44, 44] 44 #[v10, .slice (some ⟨w3.heap.size, 0, none⟩) 1 1]).run Try.prog (w3.alloc (.cells #[.int .i64 m] 3)) = .ok v10' w4 ∧ RI W w4 s σ (v4 v8' v9' v10' wv) (lst (hd ++ [(0, m)]) xs) := by
  have hm : ∀ {α : Type} (f : Nat × Int → α), (hd.map f).length = hd.length := fun f => List.length_map _
  obtain ⟨v8', w2, e1, r1, k1, n1⟩ := app_num w W.heap.size v8 (rng hd.length) hd.length (R.r 0 (by omega)) R.k.size (by rw [rng_len]; omega)
  have R1 : RI W w2 s σ (v4 v8' v9 v10 wv) (l4 (num (rng (hd ++ [(0, m)]).length)) (num (hd.map fun x : Nat × Int => (x.1 : Int))) (num (hd.map fun x : Nat × Int => x.2)) (ints xs)) := R.push 0 (by omega) k1 (by
      show World.ownsRow _ _ 3 1 v8' (num (rng (hd ++ [(0, m)]).length)).length (num (rng (hd ++ [(0, m)]).length))
      rw [List.length_append, List.length_singleton, rng_succ]
      exact r1) (nw n1) (fun j hj hji => by
      match j, hj, hji with
      | 1, _, _ => rfl
      | 2, _, _ => rfl
      | 3, _, _ => rfl) (fun j hj hji => by
      match j, hj, hji with
      | 1, _, _ => rfl
      | 2, _, _ => rfl
      | 3, _, _ => rfl)
  obtain ⟨v9', w3, e2, r2, k2, n2⟩ := app_num w2 W.heap.size v9 (hd.map fun x : Nat × Int => (x.1 : Int)) 0 (R1.r 1 (by omega)) R1.k.size (by rw [hm]; omega)
  have R2 : RI W w3 s σ (v4 v8' v9' v10 wv) (l4 (num (rng (hd ++ [(0, m)]).length)) (num ((hd ++ [(0, m)]).map fun x : Nat × Int => (x.1 : Int))) (num (hd.map fun x : Nat × Int => x.2)) (ints xs)) := R1.push 1 (by omega) k2 (by
      show World.ownsRow _ _ 3 1 v9' (num ((hd ++ [(0, m)]).map fun x : Nat × Int => (x.1 : Int))).length (num ((hd ++ [(0, m)]).map fun x : Nat × Int => (x.1 : Int)))
      rw [List.map_append]
      exact r2) (nw n2) (fun j hj hji => by
      match j, hj, hji with
      | 0, _, _ => rfl
      | 2, _, _ => rfl
      | 3, _, _ => rfl) (fun j hj hji => by
      match j, hj, hji with
      | 0, _, _ => rfl
      | 2, _, _ => rfl
      | 3, _, _ => rfl)
  obtain ⟨v10', w4, e3, r3, k3, n3⟩ := app_num w3 W.heap.size v10 (hd.map fun x : Nat × Int => x.2) m (R2.r 2 (by omega)) R2.k.size (by rw [hm]; omega)
  have R3 : RI W w4 s σ (v4 v8' v9' v10' wv) (lst (hd ++ [(0, m)]) xs) := R2.push 2 (by omega) k3 (by
      show World.ownsRow _ _ 3 1 v10' (num ((hd ++ [(0, m)]).map fun x : Nat × Int => x.2)).length (num ((hd ++ [(0, m)]).map fun x : Nat × Int => x.2))
      rw [List.map_append]
      exact r3) (nw n3) (fun j hj hji => by
      match j, hj, hji with
      | 0, _, _ => rfl
      | 1, _, _ => rfl
      | 3, _, _ => rfl) (fun j hj hji => by
      match j, hj, hji with
      | 0, _, _ => rfl
      | 1, _, _ => rfl
      | 3, _, _ => rfl)
  exact ⟨v8', w2, v9', w3, v10', w4, e1, e2, e3, R3⟩
end Go.Proofs.Ytmkfjdfpcjkmnaa

/-
  The law of one file: what the steps do to its state.
-/
import Derived.Test.YtmkfjdfpcjkmnaaVv
namespace Go.Proofs.Ytmkfjdfpcjkmnaa
open Go.RowKit
set_option linter.unusedVariables false
set_option linter.unusedSimpArgs false
set_option maxRecDepth 100000

/-- Behind the first Open: closing leaves an empty file and no handle. -/
def KX (σ : FSt) : Prop := look σ.hs ((0 : Nat) : Int) = some ⟨pX, 0, 2⟩ ∧ σ.uo = 1 ∧ KSt { σ with hs := drops σ.hs ((0 : Nat) : Int), uo := σ.uo - 1 } [] []
theorem open_x (HR : HighRunes) {w : World} {s fm dm hm : Nat} (H : Fs w s ⟨100000, 5, 60, 0, 0, 0, fm, dm, hm, [], [], []⟩) :
    Calls Try.prog 14 #[.pointer (some ⟨s, 0, none⟩), .string ⟨#[120]⟩, .int .i64 2] w fun e w' => OpenR w s ⟨100000, 5, 60, 0, 0, 0, fm, dm, hm, [], [], []⟩ 0 KX e w' := by
  have h2 : ∀ W, Kept (fun _ => False) w W → Calls Try.prog 41 #[.pointer (some ⟨s, 0, none⟩), .string ⟨pX.toArray⟩] W fun e w' => MadeR W s ⟨100000, 5, 60, 0, 0, 0, fm, dm, hm, [], [], []⟩ _ e w' := fun W hW =>
    makefile_any HR (H.same hW) pX (by decide) (fun x => x = ⟨100000, 5, 60, 0, 0, 0, fm, dm, hm, [], [], []⟩) (fun W' hW' => by
      rw [split_x]
      exact there_made ((H.same hW).same hW') [] rfl) (by
      rintro _ rfl
      rw [split_x]
      exact ⟨rfl, by simp, by simp⟩)
  have h3 : ∀ W, Kept (fun _ => False) w W → Calls Try.prog 39 #[.pointer (some ⟨s, 0, none⟩), .string ⟨pX.toArray⟩, .int .i64 2] W fun e w' => e = .returned (.int .i64 0) ∧ Kept (fun _ => False) W w' := fun W hW =>
    mayopen_new HR (H.same hW) (fun i => match i with | 0 => pX | _ => []) 1 (by omega) (by omega) (by
      intro i hi
      match i, hi with
      | 0, _ => exact (congrArg Prod.fst split_x).symm) (by
      intro i hi
      match i, hi with
      | 0, _ => rfl) rfl rfl (by
      intro i hi
      match i, hi with
      | 0, _ => decide
      | 1, _ => decide) 2 (by decide) (.inl rfl) (by simp) (by simp) (by simp) (by simp) (by show ([] : List Sp).length ≠ 1024; decide)
  refine (open_newcut HR H ⟨#[120]⟩ pX clean_x 2 2 (by decide) (by decide) h3 (by simp) (by simp) (by simp) ⟨pX, pX, .slice none 0 0, []⟩ rfl _ h2 (by
    rintro _ ⟨_, rfl, bv, b, b', rfl⟩
    refine ⟨rfl, rfl, ?_, by simp, by simp⟩
    rw [split_x]
    rfl) rfl (by simp) (by simp) 0 (by omega) rfl (fun j hj => absurd hj (by omega))).mono ?_
  rintro e w' ⟨he, σ', ⟨_, ⟨_, rfl, bv, b, b', rfl⟩, b2, b3, rfl⟩, hF, hg, hk⟩
  refine ⟨he, _, ?_, hF, hg, hk⟩
  refine ⟨rfl, rfl, ⟨⟨rfl, rfl, rfl⟩, rfl, rfl, ?_, fun j x hj => by simp at hj, fun j hj => rfl, by simp⟩⟩
  refine ⟨.slice none 0 0, ?_⟩
  show look (lays (lays ([] : List (Me By Fi)) pX _ b') pX _ b3) pX = _
  rw [look_lays, if_pos rfl]
theorem KSt.opened {σ : FSt} {xs : List Int} {hd : List (Nat × Int)} (K : KSt σ xs hd) (h : hd.length < 20) (md : Int) (b : Nat) : KSt (withH σ hd.length pX md b) xs (hd ++ [(0, md)]) := by
  refine ⟨K.q, K.ub, ?_, K.f, ?_, ?_, K.ln.1, by rw [List.length_append]; simp; omega⟩
  · show σ.uo + 1 = _
    rw [K.uo, List.length_append]
    simp
  · intro j x hj
    show look (lays σ.hs (hd.length : Int) ⟨pX, 0, md⟩ b) (j : Int) = _
    rw [look_lays]
    by_cases hjl : j = hd.length
    · subst hjl
      rw [List.getElem?_append_right (Nat.le_refl _), Nat.sub_self] at hj
      cases hj
      rw [if_pos rfl]
      rfl
    · have hlt : j < hd.length := by
        have := (List.getElem?_eq_some_iff.1 hj).1
        rw [List.length_append, List.length_singleton] at this
        omega
      rw [List.getElem?_append_left hlt] at hj
      rw [if_neg (by omega)]
      exact K.h j x hj
  · intro j hj
    rw [List.length_append, List.length_singleton] at hj
    show look (lays σ.hs (hd.length : Int) ⟨pX, 0, md⟩ b) (j : Int) = _
    rw [look_lays, if_neg (by omega)]
    exact K.hn j (by omega)
theorem KSt.cut {σ : FSt} {xs : List Int} {hd : List (Nat × Int)} (K : KSt σ xs hd) (dv : Value) (b b2 : Nat) :
    KSt { withH (cutF σ pX ⟨pX, pX, dv, xs⟩ b2) hd.length pX 2 b with hs := drops (withH (cutF σ pX ⟨pX, pX, dv, xs⟩ b2) hd.length pX 2 b).hs (hd.length : Int), uo := (withH (cutF σ pX ⟨pX, pX, dv, xs⟩ b2) hd.length pX 2 b).uo - 1 } [] hd := by
  have hh : drops (withH (cutF σ pX ⟨pX, pX, dv, xs⟩ b2) hd.length pX 2 b).hs (hd.length : Int) = σ.hs := drops_lays σ.hs _ _ _ (K.hn _ (Nat.le_refl _))
  refine ⟨K.q, ?_, ?_, ⟨.slice none 0 0, ?_⟩, ?_, ?_, by simp, K.ln.2⟩
  · show σ.ub - (xs.length : Int) = _
    rw [K.ub]
    simp
  · show σ.uo + 1 - 1 = _
    rw [K.uo]
    omega
  · show look (lays σ.fs pX _ b2) pX = _
    rw [look_lays, if_pos rfl]
  · intro j x hj
    show look (drops _ _) _ = _
    rw [hh]
    exact K.h j x hj
  · intro j hj
    show look (drops _ _) _ = _
    rw [hh]
    exact K.hn j hj
theorem layB_len (xs : List Int) (p : Nat) (ys : List Int) : (layB xs p ys).length = max xs.length (p + ys.length) := by
  unfold layB
  rw [List.length_append, List.length_append, List.length_take, List.length_append, List.length_replicate, List.length_drop]
  omega
theorem KSt.wrote {σ : FSt} {xs : List Int} {hd : List (Nat × Int)} (K : KSt σ xs hd) (j : Nat) (p0 : Nat) (md : Int) (hj : hd[j]? = Option.some (p0, md)) (tg : Nat) (ys : List Int) (hl : tg + ys.length ≤ 100000) (dv : Value) (b b' : Nat) :
    KSt { σ with fs := lays σ.fs pX ⟨pX, pX, dv, layB xs tg ys⟩ b, ub := σ.ub - xs.length + (layB xs tg ys).length, hs := lays σ.hs (j : Int) ⟨pX, (tg : Int) + (ys.length : Int), md⟩ b' } (layB xs tg ys) (hd.set j (tg + ys.length, md)) := by
  have hjl := (List.getElem?_eq_some_iff.1 hj).1
  refine ⟨K.q, ?_, ?_, ⟨dv, ?_⟩, ?_, ?_, ?_⟩
  · show σ.ub - (xs.length : Int) + _ = _
    rw [K.ub]
    omega
  · show σ.uo = _
    rw [K.uo, List.length_set]
  · show look (lays σ.fs pX _ b) pX = _
    rw [look_lays, if_pos rfl]
  · intro i x hi
    show look (lays σ.hs (j : Int) _ b') (i : Int) = _
    rw [look_lays]
    by_cases hij : i = j
    · subst hij
      rw [List.getElem?_set_self hjl] at hi
      cases hi
      rw [if_pos rfl]
      simp
    · rw [List.getElem?_set_ne (fun e => hij e.symm)] at hi
      rw [if_neg (by omega)]
      exact K.h i x hi
  · intro i hi
    rw [List.length_set] at hi
    show look (lays σ.hs (j : Int) _ b') (i : Int) = _
    rw [look_lays, if_neg (by omega)]
    exact K.hn i hi
  · rw [layB_len, List.length_set]
    have := K.ln
    omega
end Go.Proofs.Ytmkfjdfpcjkmnaa

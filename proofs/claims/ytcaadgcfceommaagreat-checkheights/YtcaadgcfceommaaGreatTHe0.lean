/-
  THe0: He0.
-/
import Derived.Test.YtcaadgcfceommaaGreatTHd
import Derived.Test.YtcaadgcfceommaaGreatTLg
import Derived.Deep.CutRange
namespace Go.Proofs.YtcaadgcfceommaaGreat
open Go.RowKit
set_option linter.unusedVariables false
set_option linter.unusedSimpArgs false
set_option maxRecDepth 100000

theorem way_end {p : PG} {f : FN} {x : IN} {i : Nat} (hst : strayE p f x = 0) (hi : i < f.code.length) : (f.code.length : Int) ∈ wayL x i ↔ endsP x.op = false ∧ x.op ≠ 14 ∧ f.code.length ≤ i + 1 := by
  have ha : (x.op = 14 ∨ x.op = 15 ∨ x.op = 16) → x.a < f.code.length := fun h => by
    unfold strayE at hst
    rw [if_pos h] at hst
    split at hst
    · rename_i h2; exact ((amg_iff _ _).1 h2).2
    · cases hst
  unfold wayL endsP
  split
  · rename_i h; simp [h]
  · rename_i h
    split
    · rename_i h14
      have := ha (by omega)
      simp [h14]
      omega
    · rename_i h14
      split
      · rename_i h15
        have := ha (by omega)
        have he : decide (x.op = 1 ∨ x.op = 2 ∨ x.op = 18) = false := by simp; omega
        rw [he]
        split
        · simp; omega
        · split
          · simp; omega
          · simp; omega
      · have he : decide (x.op = 1 ∨ x.op = 2 ∨ x.op = 18) = false := by simp; omega
        rw [he]
        simp
        omega
theorem next_way {p : PG} {f : FN} {x : IN} {k i : Nat} (hid : instrD p (k : Int) (i : Int) = some (x, f)) (hst : strayE p f x = 0) (hi : i < f.code.length) (hn : (f.code.length : Int) ∉ wayL x i) : nextD p (k : Int) (i : Int) = wayL x i := by
  unfold nextD
  rw [hid]
  show List.filter _ _ = _
  rw [List.filter_eq_self]
  intro m hm
  obtain ⟨h1, h2⟩ := (way_rng p f x i hi hst).1 m hm
  rw [amg_iff]
  refine ⟨h1, ?_⟩
  have : m ≠ (f.code.length : Int) := fun e => hn (e ▸ hm)
  omega
theorem steps_at {p : PG} {f : FN} {x : IN} {i : Nat} (h : f.code[i]? = some x) : (stepsL p f)[i]? = some (stepAt p f i x) := by simp [stepsL, h]
theorem instr_at {p : PG} {f : FN} {x : IN} {k i : Nat} (hf : p.fns[k]? = some f) (hx : f.code[i]? = some x) : instrD p (k : Int) (i : Int) = some (x, f) := by
  have hk : k < p.fns.length := (List.getElem?_eq_some_iff.1 hf).1
  have hi : i < f.code.length := (List.getElem?_eq_some_iff.1 hx).1
  unfold instrD
  rw [if_pos ⟨by omega, by omega⟩, show ((k : Int)).toNat = k by omega, hf]
  simp only [Option.bind_some]
  rw [if_pos ⟨by omega, by omega⟩, show ((i : Int)).toNat = i by omega, hx]
  rfl
/-- A step's fault, test by test. -/
theorem fault_iff {p : PG} {f : FN} {x : IN} {i : Nat} {h n : Int} : faultS (stepAt p f i x) h n = 0 ↔ ¬ (h < wantsS (stepAt p f i x) ∨ 256 < behindS (stepAt p f i x) h ∨ (x.op = 18 ∧ h ≠ f.r)) ∧ n ∉ wayL x i := by
  have h18 : x.op = 18 → (stepAt p f i x).tk = f.r := fun e => by show (tkgv p f x).1 = f.r; unfold tkgv; rw [if_neg (by omega), if_pos e]
  unfold faultS
  show (if x.op = 18 ∧ h ≠ (stepAt p f i x).tk then _ else _) = 0 ↔ _
  by_cases e : x.op = 18
  · rw [h18 e]
    by_cases e2 : h ≠ f.r
    · rw [if_pos ⟨e, e2⟩]
      simp [e, e2]
    · rw [if_neg (by simp [e2])]
      have e3 : h = f.r := by omega
      by_cases a1 : h < wantsS (stepAt p f i x)
      · rw [if_pos a1]; simp [a1]
      · rw [if_neg a1]
        by_cases a2 : 256 < behindS (stepAt p f i x) h
        · rw [if_pos a2]; simp [a2]
        · rw [if_neg a2]
          by_cases a3 : n ∈ (stepAt p f i x).nx
          · rw [if_pos a3]
            have : n ∈ wayL x i := a3
            simp [this]
          · rw [if_neg a3]
            have : n ∉ wayL x i := a3
            exact ⟨fun _ => ⟨fun h9 => h9.elim a1 (fun h9 => h9.elim a2 (fun h9 => h9.2 e3)), this⟩, fun _ => rfl⟩
  · rw [if_neg (by simp [e])]
    by_cases a1 : h < wantsS (stepAt p f i x)
    · rw [if_pos a1]; simp [a1]
    · rw [if_neg a1]
      by_cases a2 : 256 < behindS (stepAt p f i x) h
      · rw [if_pos a2]; simp [a2]
      · rw [if_neg a2]
        by_cases a3 : n ∈ (stepAt p f i x).nx
        · rw [if_pos a3]
          have : n ∈ wayL x i := a3
          simp [this]
        · rw [if_neg a3]
          have : n ∉ wayL x i := a3
          simp [a1, a2, this, e]
/-- What tried leaves. -/
def TriedR (p : PG) (f : FN) (w : World) (e : Ending) (w' : World) : Prop := Kept (fun _ => False) w w' ∧
  ((∃ hv hs, e = .returned (.tuple #[hv, .bool true]) ∧ OwnN w' w.heap.size hv hs ∧ Fit (stepsL p f) f.code.length hs) ∨ (e = .returned (.tuple #[.slice none 0 0, .bool false]) ∧ ∀ hs, ¬ Fit (stepsL p f) f.code.length hs))
end Go.Proofs.YtcaadgcfceommaaGreat

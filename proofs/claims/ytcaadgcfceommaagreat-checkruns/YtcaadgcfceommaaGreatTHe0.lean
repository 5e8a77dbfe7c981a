import Derived.Test.YtcaadgcfceommaaGreatTHb
import Derived.Test.YtcaadgcfceommaaGreatTQc
import Derived.Test.YtcaadgcfceommaaGreatTLg
import Derived.Deep.CutRange
namespace Go.Proofs.YtcaadgcfceommaaGreat
open Go.RowKit
set_option linter.unusedVariables false
set_option linter.unusedSimpArgs false
set_option maxRecDepth 100000
theorem next_way {p : PG} {f : FN} {x : IN} {k i : Nat} (hid : instrD p (k : Int) (i : Int) = some (x, f)) (hst : strayE p f x = 0) (hi : i < f.code.length) (hn : (f.code.length : Int) ∉ wayL x i) : nextD p (k : Int) (i : Int) = wayL x i := by
 unfold nextD
 rw [hid]
 show List.filter _ _ = _
 rw [List.filter_eq_self]
 intro m hm
 obtain ⟨h1, h2⟩ := (way_rng p f x i hi hst).1 m hm
 rw [amg_iff]
 refine ⟨h1, ?_⟩
 have : m ≠ (f.code.length : Int) := fun e => hn (e ▸ hm)
 omega
theorem steps_at {p : PG} {f : FN} {x : IN} {i : Nat} (h : f.code[i]? = some x) : (stepsL p f)[i]? = some (stepAt p f i x) := by simp [stepsL, h]
theorem instr_at {p : PG} {f : FN} {x : IN} {k i : Nat} (hf : p.fns[k]? = some f) (hx : f.code[i]? = some x) : instrD p (k : Int) (i : Int) = some (x, f) := by
 have hk : k < p.fns.length := (List.getElem?_eq_some_iff.1 hf).1
 have hi : i < f.code.length := (List.getElem?_eq_some_iff.1 hx).1
 unfold instrD
 rw [if_pos ⟨by omega, by omega⟩, show ((k : Int)).toNat = k by omega, hf]
 simp only [Option.bind_some]
 rw [if_pos ⟨by omega, by omega⟩, show ((i : Int)).toNat = i by omega, hx]
 rfl
theorem fault_iff {p : PG} {f : FN} {x : IN} {i : Nat} {h n : Int} : faultS (stepAt p f i x) h n = 0 ↔ ¬ (h < wantsS (stepAt p f i x) ∨ 256 < behindS (stepAt p f i x) h ∨ (x.op = 18 ∧ h ≠ f.r)) ∧ n ∉ wayL x i := by
 have h18 : x.op = 18 → (stepAt p f i x).tk = f.r := fun e => by show (tkgv p f x).1 = f.r; unfold tkgv; rw [if_neg (by omega), if_pos e]
 unfold faultS
 show (if x.op = 18 ∧ h ≠ (stepAt p f i x).tk then _ else _) = 0 ↔ _
 by_cases e : x.op = 18
 ·rw [h18 e]
  by_cases e2 : h ≠ f.r
  ·rw [if_pos ⟨e, e2⟩]
   simp [e, e2]
  ·rw [if_neg (by simp [e2])]
   have e3 : h = f.r := by omega
   by_cases a1 : h < wantsS (stepAt p f i x)
   ·rw [if_pos a1]; simp [a1]
   ·rw [if_neg a1]
    by_cases a2 : 256 < behindS (stepAt p f i x) h
    ·rw [if_pos a2]; simp [a2]
    ·rw [if_neg a2]
     by_cases a3 : n ∈ (stepAt p f i x).nx
     ·rw [if_pos a3]
      have : n ∈ wayL x i := a3
      simp [this]
     ·rw [if_neg a3]
      have : n ∉ wayL x i := a3
      exact ⟨fun _ => ⟨fun h9 => h9.elim a1 (fun h9 => h9.elim a2 (fun h9 => h9.2 e3)), this⟩, fun _ => rfl⟩
 ·rw [if_neg (by simp [e])]
  by_cases a1 : h < wantsS (stepAt p f i x)
  ·rw [if_pos a1]; simp [a1]
  ·rw [if_neg a1]
   by_cases a2 : 256 < behindS (stepAt p f i x) h
   ·rw [if_pos a2]; simp [a2]
   ·rw [if_neg a2]
    by_cases a3 : n ∈ (stepAt p f i x).nx
    ·rw [if_pos a3]
     have : n ∈ wayL x i := a3
     simp [this]
    ·rw [if_neg a3]
     have : n ∉ wayL x i := a3
     simp [a1, a2, this, e]
end Go.Proofs.YtcaadgcfceommaaGreat

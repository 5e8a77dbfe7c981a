import Derived.Test.YtcaadgcfceommaaGreatTHe0
import Derived.Test.YtcaadgcfceommaaGreatTLl
import Derived.Test.YtcaadgcfceommaaGreatTLc
namespace Go.Proofs.YtcaadgcfceommaaGreat
open Go.RowKit
set_option linter.unusedVariables false
set_option linter.unusedSimpArgs false
set_option maxRecDepth 100000
theorem bodies_ok (p : PG) : ∀ (fs : List FN) (i : Nat) (bs : List BD), bodiesD p fs i = .ok bs → bs.length = fs.length ∧ ∀ (j : Nat) (f : FN), fs[j]? = some f → ∃ b, bs[j]? = some b ∧ bodyD (stepsL p f) f.code.length = .ok b
 | [], i, bs, h => by
  simp only [bodiesD, Except.ok.injEq] at h
  subst h
  exact ⟨rfl, fun j f hf => by simp at hf⟩
 | g :: fs, i, bs, h => by
  rw [bodiesD] at h
  cases hb : bodyD (stepsL p g) g.code.length with
  | error z => obtain ⟨x, y⟩ := z; rw [hb] at h; cases h
  | ok b =>
   rw [hb] at h
   simp only at h
   cases hr : bodiesD p fs (i + 1) with
   | error z => rw [hr] at h; cases h
   | ok l =>
    rw [hr] at h
    cases h
    obtain ⟨h1, h2⟩ := bodies_ok p fs (i + 1) l hr
    refine ⟨by simp [h1], fun j f hf => ?_⟩
    cases j with
    | zero =>
     have e : g = f := by simpa using hf
     subst e
     exact ⟨b, by simp, hb⟩
    | succ j =>
     obtain ⟨b', h3, h4⟩ := h2 j f (by simpa using hf)
     exact ⟨b', by simpa using h3, h4⟩
end Go.Proofs.YtcaadgcfceommaaGreat

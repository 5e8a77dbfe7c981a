/-
  THj: Hj.
-/
import Derived.Test.YtcaadgcfceommaaGreatTHi
import Derived.Test.YtcaadgcfceommaaGreatTHf
namespace Go.Proofs.YtcaadgcfceommaaGreat
open Go.RowKit
set_option linter.unusedVariables false
set_option linter.unusedSimpArgs false
set_option maxRecDepth 100000

theorem FactsAt.tops {w : World} {B nf : Nat} {v : Value} {fx : FX} (h : FactsAt w B nf v fx) (hn : fx.tops.length = nf) : ∃ hao hc tao tc lao lc gl HV, v = .agg #[.slice hao nf hc, .slice tao nf tc, .slice lao nf lc, .slice (some ⟨gl, 0, none⟩) nf nf, .int .i64 fx.cells, .int .i64 fx.cost] ∧ w.ownsRow B 30 1 (.slice hao nf hc) nf HV ∧ (∀ (i : Nat) (l : List Int), fx.heights[i]? = some l → ∃ u, HV[i]? = some u ∧ OwnN w 0 u l) ∧ OwnN w B (.slice tao nf tc) fx.tops := by
  obtain ⟨hvv, tvv, lvv, gl, HV, LV, e, h1, h2, h3, h4, h5, h6⟩ := h
  obtain ⟨a1, c1, rfl⟩ := ownsRow_shape h1
  obtain ⟨a2, c2, rfl⟩ := ownsRow_shape h3
  obtain ⟨a3, c3, rfl⟩ := ownsRow_shape h4
  rw [hn] at e h3
  exact ⟨a1, c1, a2, c2, a3, c3, gl, HV, e, h1, h2, by rw [← hn] at h3 ⊢; exact h3⟩
theorem run_len {p : PG} {fx : FX} (h : runD p = .ok fx) : fx.tops.length = p.fns.length := by
  unfold runD at h
  by_cases hp : (plainD p).1 = 0
  · rw [if_neg (by simpa using hp)] at h
    cases hb : bodiesD p p.fns 0 with
    | error z => rw [hb] at h; cases h
    | ok bs =>
      rw [hb] at h
      cases h
      show (bs.map topP).length = _
      rw [List.length_map]
      exact (bodies_ok p p.fns 0 bs hb).1
  · rw [if_pos hp] at h
    cases h
end Go.Proofs.YtcaadgcfceommaaGreat

/-
  THf: Hf.
-/
import Derived.Test.YtcaadgcfceommaaGreatTHe
import Derived.Test.YtcaadgcfceommaaGreatTLl
import Derived.Test.YtcaadgcfceommaaGreatTLc
namespace Go.Proofs.YtcaadgcfceommaaGreat
open Go.RowKit
set_option linter.unusedVariables false
set_option linter.unusedSimpArgs false
set_option maxRecDepth 100000

theorem bodies_ok (p : PG) : ∀ (fs : List FN) (i : Nat) (bs : List BD), bodiesD p fs i = .ok bs → bs.length = fs.length ∧ ∀ (j : Nat) (f : FN), fs[j]? = some f → ∃ b, bs[j]? = some b ∧ bodyD (stepsL p f) f.code.length = .ok b
  | [], i, bs, h => by
    simp only [bodiesD, Except.ok.injEq] at h
    subst h
    exact ⟨rfl, fun j f hf => by simp at hf⟩
  | g :: fs, i, bs, h => by
    rw [bodiesD] at h
    cases hb : bodyD (stepsL p g) g.code.length with
    | error z => obtain ⟨x, y⟩ := z; rw [hb] at h; cases h
    | ok b =>
      rw [hb] at h
      simp only at h
      cases hr : bodiesD p fs (i + 1) with
      | error z => rw [hr] at h; cases h
      | ok l =>
        rw [hr] at h
        cases h
        obtain ⟨h1, h2⟩ := bodies_ok p fs (i + 1) l hr
        refine ⟨by simp [h1], fun j f hf => ?_⟩
        cases j with
        | zero =>
          have e : g = f := by simpa using hf
          subst e
          exact ⟨b, by simp, hb⟩
        | succ j =>
          obtain ⟨b', h3, h4⟩ := h2 j f (by simpa using hf)
          exact ⟨b', by simpa using h3, h4⟩
theorem own_at9 {w : World} {b e s n : Nat} {v : Value} {xs : List Value} (h : w.ownsRow b e s v n xs) (hn : 0 < n) : ∃ g c, v = .slice (some ⟨g, 0, none⟩) n c := by
  rcases World.ownsRow.mk' h with ⟨_, e⟩ | ⟨g, cap, e⟩
  · omega
  · exact ⟨g, cap, e⟩
theorem FactsAt.same {w w' : World} {B nf : Nat} {v : Value} {fx : FX} (h : FactsAt w B nf v fx) (hk : Kept (fun _ => False) w w') : FactsAt w' B nf v fx := h.over hk (fun q f => f.elim) (Nat.le_refl _)
theorem FactsAt.heights {w : World} {B nf : Nat} {v : Value} {fx : FX} (h : FactsAt w B nf v fx) : ∃ hao hc tao tc nt lao lc nl gl HV, v = .agg #[.slice hao nf hc, .slice tao nt tc, .slice lao nl lc, .slice (some ⟨gl, 0, none⟩) nf nf, .int .i64 fx.cells, .int .i64 fx.cost] ∧ w.ownsRow B 30 1 (.slice hao nf hc) nf HV ∧ ∀ (i : Nat) (l : List Int), fx.heights[i]? = some l → ∃ u, HV[i]? = some u ∧ OwnN w 0 u l := by
  obtain ⟨hvv, tvv, lvv, gl, HV, LV, e, h1, h2, h3, h4, h5, h6⟩ := h
  obtain ⟨a1, c1, rfl⟩ := ownsRow_shape h1
  obtain ⟨a2, c2, rfl⟩ := ownsRow_shape h3
  obtain ⟨a3, c3, rfl⟩ := ownsRow_shape h4
  exact ⟨a1, c1, a2, c2, _, a3, c3, _, gl, HV, e, h1, h2⟩
end Go.Proofs.YtcaadgcfceommaaGreat

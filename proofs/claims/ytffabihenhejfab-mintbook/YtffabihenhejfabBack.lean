/-
  MintBack: the walk and the given statement.
-/
import Derived.Test.YtffabihenhejfabRsheet
namespace Go.Proofs.Ytffabihenhejfab
open Go.ChangeShapes Go.WideShapes Go.ChangeAt Go.RowKit
set_option linter.unusedVariables false

/-- same, of a sheet that is done and the things that were put. -/
theorem same_done (w4 w' : World) (s B : Nat) (allv tv lv : Value) (its told : List ItV) (hsd : SDone w4 w' s allv its tv lv told) (hm : its.length ≤ 1000) (hnil : its = [] → allv = .slice none 0 0) (hrow : w'.ownsRow B 33 3 allv its.length (its.flatMap ItV.cells))
    (hgood : ∀ i, i < its.length → Good (its.getD i ItV.default) ∧ IsB w' (its.getD i ItV.default).bv (its.getD i ItV.default).xs) :
    Calls Try.prog 12 #[tv, allv] w' fun e w'' => e = .returned (.bool true) ∧ ∃ n, w'' = w'.drewN n := by
  obtain ⟨_, h2⟩ := hsd
  rcases h2 with ⟨rfl, rfl⟩ | ⟨h0, gt, tc, gl, lc, rfl, e2, e3, e4, e5, e6, e7, e8⟩
  · rw [hnil rfl]
    refine (same_items_none none none 0 0 w').mono ?_
    rintro e w'' ⟨rfl, rfl⟩
    exact ⟨rfl, 0, rfl⟩
  · obtain ⟨gw, c, rfl⟩ : ∃ gw c, allv = .slice (some ⟨gw, 0, none⟩) its.length c := by
      rcases World.ownsRow.mk' hrow with ⟨_, hn⟩ | ⟨gw, c, e⟩
      · exact absurd (List.length_eq_zero_iff.1 hn) h0
      · exact ⟨gw, c, e⟩
    have hr : Row w' (.slice (some ⟨gw, 0, none⟩) its.length c) its := by
      refine ⟨hrow.1, ?_⟩
      rcases hrow.2 with h | ⟨g, cap, cur, e, hb, r⟩
      · exact .inl h
      · exact .inr ⟨g, cap, cur, e, Nat.zero_le _, r⟩
    exact same_items gt tc gw c its.length told its w' hm e4 rfl e3 (Row.items hr) (fun i hi => ⟨(e8 i hi).1, (e8 i hi).2.1, (e8 i hi).2.2.1, (e8 i hi).2.2.2.1, (hgood i hi).2, (hgood i hi).1.2.2.2.2.2.2.2⟩)

end Go.Proofs.Ytffabihenhejfab

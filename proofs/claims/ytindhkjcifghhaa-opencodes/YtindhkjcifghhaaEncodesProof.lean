/-
  OpEncodes: the given statement, out of the walk.
-/
import Derived.Test.YtindhkjcifghhaaWe
import Derived.Test.YtindhkjcifghhaaOz
namespace Go.Proofs.Ytindhkjcifghhaa
namespace opEncodes
open Go.ChangeShapes Go.WideShapes Go.ChangeAt Go.WideMaps Go.WideElems Go.RowKit
set_option linter.unusedVariables false
set_option linter.unusedSimpArgs false

theorem own : ownKnob Try.prog.godebug = none := by kernel_rfl

set_option maxRecDepth 100000 in
theorem lifted (os : Os) (started : os.Started) (H : Type) (enc : TypeId × Value → H) :
    ReturnsInHanded {} Try.checked os 4 .any (Rows.opEncodesSpec.pre6 enc Try.prog Try.f4 Rows.opEncodesRow.domain false) (Rows.opEncodesSpec.post enc Try.prog Try.f4 false true false false) := by
  refine returnsInHanded_of_change_sized (C := Try.checked) own started (by kernel_rfl) Try.func4
    (ChangeSpec.witness6 (enc := enc) (C := Try.checked) false ⟨#[], #[.slice none 0 0], []⟩ 8 (by kernel_rfl) (by kernel_rfl) (by kernel_rfl) (by kernel_rfl)) ?_
  intro W base args ds gs before hval0 hW hcnd hsz0 _
  have hsz : (DataW.weightsEach Try.prog (Try.f4.params.toList ++ Rows.opEncodesSpec.plain.varTypes Try.prog) (ds ++ gs)).all (· ≤ reachBytes) = true := hsz0
  clear hsz0
  have hval : ∀ (j : Nat) t v, Try.f4.params[j]? = some t → args[j]? = some v → Value.okWide Try.prog W .any base t v := hval0
  have hW' := hW
  obtain ⟨p, q, hA0, hV, rfl, hfz, hnd⟩ := hW
  have hA : DataW.TrodAll enc Try.prog W 0 (fun _ => true) true Try.f4.params.toList args.toList ds p := hA0
  rw [Try.params4] at hA hval hsz
  obtain ⟨v0, vs0, d0, ds0, p0, q0, hargs, rfl, rfl, h0, r0⟩ := trodAll_cons hA
  obtain ⟨rfl, rfl, rfl⟩ := trodAll_nil r0
  obtain rfl : args = #[v0] := by cases args; simp_all
  obtain ⟨rfl, rfl⟩ := trodVars_none hV
  have k0 := h0
  have lt0 : ∀ x ∈ p0, x.block < W.heap.size := by obtain ⟨m, hm⟩ := k0; exact DataW.trod_lt m _ _ _ hm
  obtain ⟨a0, l0, c0, rfl⟩ := okWide_slice Try.underlying34 (hval 0 34 v0 rfl rfl)
  obtain ⟨fuel0, hf0⟩ := h0
  have hf0' : DataW.trod enc Try.prog W 0 (fun _ => true) true fuel0 34 [.slice a0 l0 c0] = some (d0, p0) := hf0
  have hdl : l0 = 0 ∨ ∃ ds sp, d0 = .slice ds sp ∧ ds.length = l0 := by
    rcases Go.Deep.open_slice Try.underlying34 hf0' with ⟨hcs, _⟩ | ⟨a, len, cap, m, n, D, Pl, hcs, _, _, _, _, hx, _⟩
    · cases hcs
      exact .inl rfl
    · cases hcs
      exact .inr ⟨_, _, (Prod.mk.inj hx).1, by simp⟩
  have hn : (l0 + 67) * 16 ≤ 140737488355328 := by
    rcases hdl with rfl | ⟨ds', sp, rfl, hl⟩
    · omega
    · have := sized_slice hsz (j := 0) (t := 34) (e := 52) rfl rfl Try.underlying34
      rw [show Try.prog.bytesOf 52 = 16 by kernel_rfl] at this
      simp only [reachBytes] at this
      omega
  obtain ⟨ys, hY, hyo, _⟩ := open_ins hf0'
  obtain ⟨yo, yc, hyv⟩ := hY.shape
  cases hyv
  clear hA0 hval0
  refine (encodes_walk _ _ ys W hY hyo hn).mono fun e W' ⟨he, hk⟩ => ?_
  have bel : Below W.heap.size W W' := hk.below (Nat.le_refl _) (fun _ f => f.elim)
  subst he
  exact ⟨_, rfl, _, _, _, [], _, [], hW', trodAll_mk1 (shut_bool Try.underlying4 _), (trodAll_cons_mk (Below.trod laidOut (by kernel_rfl) (of_decide_eq_true (by kernel_rfl)) k0 bel lt0) trodAll_mk0), rfl, bel.frame _, fun h => by cases h⟩

theorem over : Rows.opEncodesRow.holds Try.pinned (OpenSpec.ofChange Rows.opEncodesSpec) :=
  OpenClaim.holds_of_wide 4 Try.f4 rfl rfl rfl rfl rfl rfl rfl ⟨rfl, rfl, rfl, rfl, rfl⟩ rfl rfl rfl rfl rfl (by kernel_rfl) Try.func4 (by kernel_rfl)
    (of_decide_eq_true (by kernel_rfl)) (by unfold Func.isWrapper; first | (rw [if_pos (by decide +kernel)]; kernel_rfl) | (rw [if_neg (by decide +kernel)]; exact ⟨rfl, rfl⟩))
    (fun os started H enc _ => lifted os started H enc)
end opEncodes

theorem opEncodes_holds : Rows.OpEncodesSaid := opEncodes.over
#print axioms opEncodes_holds
end Go.Proofs.Ytindhkjcifghhaa

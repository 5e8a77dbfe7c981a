/-
  OpOwn: the given statement, out of the walk.
-/
import Derived.Test.YtindhkjcifghhabGow
import Derived.Test.YtindhkjcifghhabOz
namespace Go.Proofs.Ytindhkjcifghhab
namespace opOwn
open Go.ChangeShapes Go.WideShapes Go.ChangeAt Go.WideMaps Go.WideElems Go.RowKit
set_option linter.unusedVariables false
set_option linter.unusedSimpArgs false

theorem own : ownKnob Try.prog.godebug = none := by kernel_rfl
theorem none_len {W : World} {ao : Option Addr} {c : Nat} {ys : List IN} (h : RowI W (.slice ao ys.length c) ys) : ao = none → ys.length = 0 := fun e => by
  subst e
  rcases h with ⟨e, _⟩ | ⟨g, o, c', e, _⟩
  · rw [e]; rfl
  · cases e

set_option maxRecDepth 100000 in
theorem lifted (os : Os) (started : os.Started) (H : Type) (enc : TypeId × Value → H) :
    ReturnsInHanded {} Try.checked os 3 .any (Rows.opOwnSpec.pre6 enc Try.prog Try.f3 Rows.opOwnRow.domain false) (Rows.opOwnSpec.post enc Try.prog Try.f3 false true false false) := by
  refine returnsInHanded_of_change_sized (C := Try.checked) own started (by kernel_rfl) Try.func3
    (ChangeSpec.witness6 (enc := enc) (C := Try.checked) false ⟨#[], #[.slice none 0 0, .slice none 0 0], []⟩ 8 (by kernel_rfl) (by kernel_rfl) (by kernel_rfl) (by kernel_rfl)) ?_
  intro W base args ds gs before hval0 hW hcnd hsz0 _
  have hsz : (DataW.weightsEach Try.prog (Try.f3.params.toList ++ Rows.opOwnSpec.plain.varTypes Try.prog) (ds ++ gs)).all (· ≤ reachBytes) = true := hsz0
  clear hsz0
  have hval : ∀ (j : Nat) t v, Try.f3.params[j]? = some t → args[j]? = some v → Value.okWide Try.prog W .any base t v := hval0
  have hW' := hW
  obtain ⟨p, q, hA0, hV, rfl, hfz, hnd⟩ := hW
  have hA : DataW.TrodAll enc Try.prog W 0 (fun _ => true) true Try.f3.params.toList args.toList ds p := hA0
  rw [Try.params3] at hA hval hsz
  obtain ⟨v0, vs0, d0, ds0, p0, q0, hargs, rfl, rfl, h0, r0⟩ := trodAll_cons hA
  obtain ⟨v1, vs1, d1, ds1, p1, q1, hargs1, rfl, rfl, h1, r1⟩ := trodAll_cons r0
  obtain ⟨rfl, rfl, rfl⟩ := trodAll_nil r1
  obtain rfl : args = #[v0, v1] := by cases args; simp_all
  obtain ⟨rfl, rfl⟩ := trodVars_none hV
  have k0 := h0
  have k1 := h1
  have lt0 : ∀ x ∈ p0, x.block < W.heap.size := by obtain ⟨m, hm⟩ := k0; exact DataW.trod_lt m _ _ _ hm
  have lt1 : ∀ x ∈ p1, x.block < W.heap.size := by obtain ⟨m, hm⟩ := k1; exact DataW.trod_lt m _ _ _ hm
  obtain ⟨a0, l0, c0, rfl⟩ := okWide_slice Try.underlying22 (hval 0 22 v0 rfl rfl)
  obtain ⟨a1, l1, c1, rfl⟩ := okWide_slice Try.underlying22 (hval 1 22 v1 rfl rfl)
  obtain ⟨fuel0, hf0⟩ := h0
  obtain ⟨fuel1, hf1⟩ := h1
  have hf0' : DataW.trod enc Try.prog W 0 (fun _ => true) true fuel0 22 [.slice a0 l0 c0] = some (d0, p0) := hf0
  have hf1' : DataW.trod enc Try.prog W 0 (fun _ => true) true fuel1 22 [.slice a1 l1 c1] = some (d1, p1) := hf1
  have hdl : ∀ {a : Option Addr} {l c fuel : Nat} {d : DataW H} {p : List MemPlace}, DataW.trod enc Try.prog W 0 (fun _ => true) true fuel 22 [.slice a l c] = some (d, p) → l = 0 ∨ ∃ ds sp, d = .slice ds sp ∧ ds.length = l := by
    intro a l c fuel d p hf
    rcases Go.Deep.open_slice Try.underlying22 hf with ⟨hcs, _⟩ | ⟨a, len, cap, m, n, D, Pl, hcs, _, _, _, _, hx, _⟩
    · cases hcs
      exact .inl rfl
    · cases hcs
      exact .inr ⟨_, _, (Prod.mk.inj hx).1, by simp⟩
  have hn0 : l0 * 16 ≤ 140737488351232 := by
    rcases hdl hf0' with rfl | ⟨ds', sp, rfl, hl⟩
    · omega
    · have := sized_slice hsz (j := 0) (t := 22) (e := 42) rfl rfl Try.underlying22
      rw [show Try.prog.bytesOf 42 = 16 by kernel_rfl] at this
      simp only [reachBytes] at this
      omega
  have hn1 : l1 * 16 ≤ 140737488351232 := by
    rcases hdl hf1' with rfl | ⟨ds', sp, rfl, hl⟩
    · omega
    · have := sized_slice hsz (j := 1) (t := 22) (e := 42) rfl rfl Try.underlying22
      rw [show Try.prog.bytesOf 42 = 16 by kernel_rfl] at this
      simp only [reachBytes] at this
      omega
  obtain ⟨ys, hY, hyo, _⟩ := open_ins hf0'
  obtain ⟨yo, yc, hyv⟩ := hY.shape
  cases hyv
  obtain ⟨zs, hZ, hzo, _⟩ := open_ins hf1'
  obtain ⟨zo, zc, hzv⟩ := hZ.shape
  cases hzv
  clear hA0 hval0
  refine (own_walk _ _ _ _ ys zs W hY hZ hyo hzo (none_len hY) hn0 hn1).mono fun e W' ⟨he, hk⟩ => ?_
  have bel : Below W.heap.size W W' := hk.below (Nat.le_refl _) (fun _ f => f.elim)
  subst he
  exact ⟨_, rfl, _, _, _, [], _, [], hW', trodAll_mk1 (shut_bool Try.underlying4 _), (trodAll_cons_mk (Below.trod laidOut (by kernel_rfl) (of_decide_eq_true (by kernel_rfl)) k0 bel lt0) (trodAll_cons_mk (Below.trod laidOut (by kernel_rfl) (of_decide_eq_true (by kernel_rfl)) k1 bel lt1) trodAll_mk0)), rfl, bel.frame _, fun h => by cases h⟩

theorem over : Rows.opOwnRow.holds Try.pinned (OpenSpec.ofChange Rows.opOwnSpec) :=
  OpenClaim.holds_of_wide 3 Try.f3 rfl rfl rfl rfl rfl rfl rfl ⟨rfl, rfl, rfl, rfl, rfl⟩ rfl rfl rfl rfl rfl (by kernel_rfl) Try.func3 (by kernel_rfl)
    (of_decide_eq_true (by kernel_rfl)) (by unfold Func.isWrapper; first | (rw [if_pos (by decide +kernel)]; kernel_rfl) | (rw [if_neg (by decide +kernel)]; exact ⟨rfl, rfl⟩))
    (fun os started H enc _ => lifted os started H enc)
end opOwn

theorem opOwn_holds : Rows.OpOwnSaid := opOwn.over
#print axioms opOwn_holds
end Go.Proofs.Ytindhkjcifghhab

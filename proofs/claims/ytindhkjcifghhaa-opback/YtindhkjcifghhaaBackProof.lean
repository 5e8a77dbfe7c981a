/-
  OpBack: the given statement, out of the walk.
-/
import Derived.Test.YtindhkjcifghhaaBw
import Derived.Test.YtindhkjcifghhaaOx
import Derived.Test.YtindhkjcifghhaaOz
namespace Go.Proofs.Ytindhkjcifghhaa
namespace opBack
open Go.ChangeShapes Go.WideShapes Go.ChangeAt Go.WideMaps Go.WideElems Go.RowKit
set_option linter.unusedVariables false
set_option linter.unusedSimpArgs false

theorem own : ownKnob Try.prog.godebug = none := by kernel_rfl
theorem none_len {W : World} {ao : Option Addr} {c : Nat} {ys : List IN} (h : RowI W (.slice ao ys.length c) ys) : ao = none → ys.length = 0 := fun e => by
  subst e
  rcases h with ⟨e, _⟩ | ⟨g, o, c', e, _⟩
  · rw [e]; rfl
  · cases e

set_option maxRecDepth 100000 in
theorem lifted (os : Os) (started : os.Started) (H : Type) (enc : TypeId × Value → H) :
    ReturnsInHanded {} Try.checked os 7 .any (Rows.opBackSpec.pre6 enc Try.prog Try.f7 Rows.opBackRow.domain false) (Rows.opBackSpec.post enc Try.prog Try.f7 false true false false) := by
  refine returnsInHanded_of_change_sized (C := Try.checked) own started (by kernel_rfl) Try.func7
    (ChangeSpec.witness6 (enc := enc) (C := Try.checked) false ⟨#[], #[.slice none 0 0, .slice none 0 0, .slice none 0 0], []⟩ 8 (by kernel_rfl) (by kernel_rfl) (by kernel_rfl) (by kernel_rfl)) ?_
  intro W base args ds gs before hval0 hW hcnd hsz0 _
  have hsz : (DataW.weightsEach Try.prog (Try.f7.params.toList ++ Rows.opBackSpec.plain.varTypes Try.prog) (ds ++ gs)).all (· ≤ reachBytes) = true := hsz0
  clear hsz0
  have hval : ∀ (j : Nat) t v, Try.f7.params[j]? = some t → args[j]? = some v → Value.okWide Try.prog W .any base t v := hval0
  have hW' := hW
  obtain ⟨p, q, hA0, hV, rfl, hfz, hnd⟩ := hW
  have hA : DataW.TrodAll enc Try.prog W 0 (fun _ => true) true Try.f7.params.toList args.toList ds p := hA0
  rw [Try.params7] at hA hval hsz
  obtain ⟨v0, vs0, d0, ds0, p0, q0, hargs, rfl, rfl, h0, r0⟩ := trodAll_cons hA
  obtain ⟨v1, vs1, d1, ds1, p1, q1, hargs1, rfl, rfl, h1, r1⟩ := trodAll_cons r0
  obtain ⟨v2, vs2, d2, ds2, p2, q2, hargs2, rfl, rfl, h2, r2⟩ := trodAll_cons r1
  obtain ⟨rfl, rfl, rfl⟩ := trodAll_nil r2
  obtain rfl : args = #[v0, v1, v2] := by cases args; simp_all
  obtain ⟨rfl, rfl⟩ := trodVars_none hV
  have k0 := h0
  have k1 := h1
  have k2 := h2
  have lt0 : ∀ x ∈ p0, x.block < W.heap.size := by obtain ⟨m, hm⟩ := k0; exact DataW.trod_lt m _ _ _ hm
  have lt1 : ∀ x ∈ p1, x.block < W.heap.size := by obtain ⟨m, hm⟩ := k1; exact DataW.trod_lt m _ _ _ hm
  have lt2 : ∀ x ∈ p2, x.block < W.heap.size := by obtain ⟨m, hm⟩ := k2; exact DataW.trod_lt m _ _ _ hm
  obtain ⟨a0, l0, c0, rfl⟩ := okWide_slice Try.underlying34 (hval 0 34 v0 rfl rfl)
  obtain ⟨a1, l1, c1, rfl⟩ := okWide_slice Try.underlying34 (hval 1 34 v1 rfl rfl)
  obtain ⟨fuel0, hf0⟩ := h0
  obtain ⟨fuel1, hf1⟩ := h1
  have hf0' : DataW.trod enc Try.prog W 0 (fun _ => true) true fuel0 34 [.slice a0 l0 c0] = some (d0, p0) := hf0
  have hf1' : DataW.trod enc Try.prog W 0 (fun _ => true) true fuel1 34 [.slice a1 l1 c1] = some (d1, p1) := hf1
  obtain ⟨ys, hY, hyo, hyl⟩ := open_ins hf0'
  obtain ⟨yo, yc, hyv⟩ := hY.shape
  cases hyv
  obtain ⟨zs, hZ, hzo, hzl⟩ := open_ins hf1'
  obtain ⟨zo, zc, hzv⟩ := hZ.shape
  cases hzv
  obtain ⟨xs, ao, c, rfl, hB, hS, hr, hd⟩ := open_srcR (hval 2 36 v2 rfl rfl) h2
  have hlen : xs.length ≤ 140737488351232 := by
    rcases hd with rfl | ⟨sp, rfl⟩
    · simp
    · have := sized_slice hsz (j := 2) (t := 36) (e := 5) rfl rfl Try.underlying36
      rw [bytes5] at this
      simp only [lits, List.length_map, reachBytes] at this
      omega
  clear hA0 hval0
  refine (back_walk _ _ _ _ _ _ ys zs xs W hY hZ hS hB hyo hzo ⟨fun x hx => by have := hr x hx; omega, hlen⟩ (none_len hY) (none_len hZ) hyl hzl).mono fun e W' ⟨he, hk⟩ => ?_
  have bel : Below W.heap.size W W' := hk.below (Nat.le_refl _) (fun _ f => f.elim)
  subst he
  exact ⟨_, rfl, _, _, _, [], _, [], hW', trodAll_mk1 (shut_bool Try.underlying4 _), (trodAll_cons_mk (Below.trod laidOut (by kernel_rfl) (of_decide_eq_true (by kernel_rfl)) k0 bel lt0) (trodAll_cons_mk (Below.trod laidOut (by kernel_rfl) (of_decide_eq_true (by kernel_rfl)) k1 bel lt1) (trodAll_cons_mk (Below.trod laidOut (by kernel_rfl) (of_decide_eq_true (by kernel_rfl)) k2 bel lt2) trodAll_mk0))), rfl, bel.frame _, fun h => by cases h⟩

theorem over : Rows.opBackRow.holds Try.pinned (OpenSpec.ofChange Rows.opBackSpec) :=
  OpenClaim.holds_of_wide 7 Try.f7 rfl rfl rfl rfl rfl rfl rfl ⟨rfl, rfl, rfl, rfl, rfl⟩ rfl rfl rfl rfl rfl (by kernel_rfl) Try.func7 (by kernel_rfl)
    (of_decide_eq_true (by kernel_rfl)) (by unfold Func.isWrapper; first | (rw [if_pos (by decide +kernel)]; kernel_rfl) | (rw [if_neg (by decide +kernel)]; exact ⟨rfl, rfl⟩))
    (fun os started H enc _ => lifted os started H enc)
end opBack

theorem opBack_holds : Rows.OpBackSaid := opBack.over
#print axioms opBack_holds
end Go.Proofs.Ytindhkjcifghhaa

/-
  NodeOwn: the given statement, out of the walk.
-/
import Derived.Test.YtcpkbajmilkhpabGreatDoorGnw
import Derived.Test.YtcpkbajmilkhpabGreatDoorNly
import Derived.Test.YtcpkbajmilkhpabGreatDoorTie
import Derived.Test.YtcpkbajmilkhpabGreatDoorCards
import Derived.SevenTiedAt
import Derived.ChangeSlices
import Derived.SizedLaws
import Derived.ChangeMaps5
namespace Go.Proofs.YtcpkbajmilkhpabGreatDoor
namespace nodeOwn
open Go.ChangeShapes Go.WideShapes Go.ChangeAt Go.WideMaps Go.WideElems Go.RowKit Go.ChangeMaps
set_option linter.unusedVariables false
set_option linter.unusedSimpArgs false
set_option maxRecDepth 100000

theorem slice_lies {t e : TypeId} (ht : Tryz.prog.underlying t = some (.slice e)) {W : World} {base : Nat} {ao : Option Addr} {len cap : Nat} (h : Value.okWide Tryz.prog W .any base t (.slice ao len cap)) : Lies (.slice ao len cap) len := by
  cases ao with
  | none =>
    cases len with
    | zero =>
      cases cap with
      | zero => exact .inl ⟨rfl, rfl⟩
      | succ c => simp [Value.okWide, ht, Cell.okWide, Cell.ok] at h
    | succ n => simp [Value.okWide, ht, Cell.okWide, Cell.ok] at h
  | some a =>
    simp only [Value.okWide, ht, Cell.okWide, Cell.ok] at h
    obtain ⟨hlc, hcm, _, hspot, _⟩ := h
    obtain ⟨b, o, spot⟩ := a
    have hs : spot = none := hspot
    subst hs
    have h2 : (cap : Int) ≤ 9223372036854775807 := hcm
    exact .inr ⟨b, o, cap, rfl, hlc, by omega⟩

set_option maxRecDepth 100000 in
theorem lifted (os : Os) (started : os.Started) (H : Type) (enc : TypeId × Value → H) :
    ReturnsInHanded {} Tryz.checked os 3 .any (fun w args => (Rows.nodeOwnSpec.pre enc Tryz.prog Tryz.f3 [] false w args ∧ laidMetH Tryz.prog laidT w) ∧ sizedMet enc Tryz.prog Tryz.f3 (OpenSpec.ofChange Rows.nodeOwnSpec) false w args)
      (Rows.nodeOwnSpec.post enc Tryz.prog Tryz.f3 false true false false) := by
  refine returnsInHanded_of_change_and (C := Tryz.checked) (X := fun w _ => laidMetH Tryz.prog laidT w) (fun _ _ _ hh h => h.of_heap hh) own started (by kernel_rfl) Tryz.func3
    (ChangeSpec.witness_shaped (enc := enc) (C := Tryz.checked) (os := os) (X := fun w _ => laidMetH Tryz.prog laidT w) false (World.laidAll Tryz.prog os laidT) #[.slice none 0 0, .slice none 0 0, .string ⟨#[]⟩] 8 (World.laidAll_os _ _ _)
      (World.shaped_of_ZipB (by kernel_rfl) (by kernel_rfl)) (by kernel_rfl) (by kernel_rfl) (by kernel_rfl) (laid_met os _)) ?_
  intro W base args ds gs before hval0 hW _ _ hL _
  have hval : ∀ (j : Nat) t v, Tryz.f3.params[j]? = some t → args[j]? = some v → Value.okWide Tryz.prog W .any base t v := hval0
  have hW' := hW
  obtain ⟨p, q, hA0, hV, rfl, hfz, hnd⟩ := hW
  have hA : DataW.TrodAll enc Tryz.prog W 0 (fun _ => true) true Tryz.f3.params.toList args.toList ds p := hA0
  rw [Tryz.params3] at hA hval
  obtain ⟨v0, vs0, d0, ds0, p0, q0, hargs, rfl, rfl, h0, r0⟩ := trodAll_cons hA
  obtain ⟨v1, vs1, d1, ds1, p1, q1, rfl, rfl, rfl, h1, r1⟩ := trodAll_cons r0
  obtain ⟨v2, vs2, d2, ds2, p2, q2, rfl, rfl, rfl, h2, r2⟩ := trodAll_cons r1
  obtain ⟨rfl, rfl, rfl⟩ := trodAll_nil r2
  obtain rfl : args = #[v0, v1, v2] := by cases args; simp_all
  obtain ⟨rfl, rfl⟩ := trodVars_none hV
  have k0 := h0
  have k1 := h1
  have k2 := h2
  have lt0 : ∀ x ∈ p0, x.block < W.heap.size := by obtain ⟨m, hm⟩ := k0; exact DataW.trod_lt m _ _ _ hm
  have lt1 : ∀ x ∈ p1, x.block < W.heap.size := by obtain ⟨m, hm⟩ := k1; exact DataW.trod_lt m _ _ _ hm
  have lt2 : ∀ x ∈ p2, x.block < W.heap.size := by obtain ⟨m, hm⟩ := k2; exact DataW.trod_lt m _ _ _ hm
  obtain ⟨a0, l0, c0, rfl⟩ := okWide_slice Tryz.underlying22 (hval 0 22 v0 rfl rfl)
  obtain ⟨a1, l1, c1, rfl⟩ := okWide_slice Tryz.underlying22 (hval 1 22 v1 rfl rfl)
  obtain ⟨fuel0, hf0⟩ := h0
  obtain ⟨fuel1, hf1⟩ := h1
  have hf0' : DataW.trod enc Tryz.prog W 0 (fun _ => true) true fuel0 22 [.slice a0 l0 c0] = some (d0, p0) := hf0
  have hf1' : DataW.trod enc Tryz.prog W 0 (fun _ => true) true fuel1 22 [.slice a1 l1 c1] = some (d1, p1) := hf1
  obtain ⟨ys, hY, hyo, _⟩ := open_ents hf0'
  obtain ⟨yo, yc, hyv⟩ := hY.shape
  cases hyv
  obtain ⟨zs, hZ, hzo, _⟩ := open_ents hf1'
  obtain ⟨zo, zc, hzv⟩ := hZ.shape
  cases hzv
  have hl0 := slice_lies Tryz.underlying22 (hval 0 22 _ rfl rfl)
  have hl1 := slice_lies Tryz.underlying22 (hval 1 22 _ rfl rfl)
  have hb0 := slice_lt Tryz.underlying22 (hval 0 22 _ rfl rfl)
  have hb1 := slice_lt Tryz.underlying22 (hval 1 22 _ rfl rfl)
  obtain ⟨s, rfl, rfl, rfl, _⟩ := open_string Tryz.underlying9 (hval 2 9 v2 rfl rfl) h2
  have hwk := own_walk _ _ _ _ ys zs (nums s) W hY hZ hyo hzo hl0 hl1 hb0 hb1
  rw [str_back] at hwk
  clear hA0 hval0
  refine hwk.mono fun e W' ⟨he, hk⟩ => ?_
  have bel : Below W.heap.size W W' := hk.below (Nat.le_refl _) (fun _ f => f.elim)
  subst he
  exact ⟨_, rfl, _, _, _, [], _, [], hW', trodAll_mk1 (shut_bool Tryz.underlying4 _), (trodAll_cons_mk (Below.trod laidOut (by kernel_rfl) (of_decide_eq_true (by kernel_rfl)) k0 bel lt0) (trodAll_cons_mk (Below.trod laidOut (by kernel_rfl) (of_decide_eq_true (by kernel_rfl)) k1 bel lt1) (trodAll_cons_mk (Below.trod laidOut (by kernel_rfl) (of_decide_eq_true (by kernel_rfl)) k2 bel lt2) trodAll_mk0))), rfl, bel.frame _, fun h => by cases h⟩

theorem over : Rows.NodeOwnSaid :=
  OpenClaim.holds_of_wide 3 Tryz.f3 rfl rfl rfl rfl rfl rfl rfl ⟨rfl, rfl, rfl, rfl, rfl⟩ rfl rfl rfl rfl rfl (by kernel_rfl) Tryz.func3 (by kernel_rfl)
    (of_decide_eq_true (by kernel_rfl)) (by unfold Func.isWrapper; first | (rw [if_pos (by decide +kernel)]; kernel_rfl) | (rw [if_neg (by decide +kernel)]; exact ⟨rfl, rfl⟩))
    (fun os started H enc _ => lifted os started H enc)

theorem card : Rows.NodeOwnCardSaid :=
  Claim7.holds_tied_plain_at .later [] [.data, .pinned] true (true, "b71a194841091ab0d0d58a2a00f406fa1d101c2d9731e94dfcec25a4188ce464") true
    over (fun _ h => by cases h) (by kernel_rfl) (fun _ h => by cases h) nodeOwn_row_tie rfl ⟨rfl, rfl⟩ (by kernel_rfl) rfl
    (fun f fn hf hfn => by
      obtain rfl : f = 3 := Option.some.inj ((show Tryz.prog.funcNamed "retort/retortlaw5.NodeOwn" = some 3 by kernel_rfl).symm.trans hf) |>.symm
      obtain rfl : fn = Tryz.f3 := (Option.some.inj (Tryz.func3.symm.trans hfn)).symm
      exact ⟨by kernel_rfl, fun j t ht => by
        rw [Tryz.params3] at ht
        have hm : t ∈ [22, 22, 9] := by simpa using Array.mem_of_getElem? ht
        have hall : ([22, 22, 9].all fun u => !Tryz.prog.wantsStandIn u) = true := by kernel_rfl
        exact (show Tryz.prog.wantsStandIn t = false by simpa using List.all_eq_true.1 hall t hm)⟩)
    (by kernel_rfl)
end nodeOwn

theorem nodeOwn_holds : Rows.NodeOwnCardSaid := nodeOwn.card
#print axioms nodeOwn_holds
end Go.Proofs.YtcpkbajmilkhpabGreatDoor

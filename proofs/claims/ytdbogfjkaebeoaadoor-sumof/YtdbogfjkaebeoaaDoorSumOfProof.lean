/-
  SumOf: the given statement, out of the walk.
-/
import Derived.Test.YtdbogfjkaebeoaaDoorSumOfWalk
import Derived.Test.YtdbogfjkaebeoaaDoorLay
import Derived.Test.YtdbogfjkaebeoaaDoorTie
import Derived.Test.YtdbogfjkaebeoaaDoorCards
import Derived.SevenTiedAt
import Derived.Deep.Matrix
import Derived.SizedLaws
namespace Go.Proofs.YtdbogfjkaebeoaaDoor
namespace sumOf
open Go.ChangeShapes Go.WideShapes Go.ChangeAt Go.WideMaps Go.WideElems Go.RowKit Go.Deep
set_option linter.unusedVariables false
set_option linter.unusedSimpArgs false

theorem cells5 : Tryd.prog.cellsOf 5 = 1 := by kernel_rfl
theorem cells25 : Tryd.prog.cellsOf 25 = 1 := by kernel_rfl
theorem bytes5 : Tryd.prog.bytesOf 5 = 1 := by kernel_rfl
theorem bytes25 : Tryd.prog.bytesOf 25 = 24 := by kernel_rfl
theorem all_mem {H : Type} (e : TypeId) (d : DataW H) (x : Nat) (hx : x ∈ d.weights Tryd.prog e) : ∀ l : List (DataW H), d ∈ l → x ∈ DataW.weightsAll Tryd.prog e l
  | [], h => by cases h
  | y :: l, h => by
    rw [DataW.weightsAll, List.mem_append]
    rcases List.mem_cons.1 h with rfl | h
    · exact .inl hx
    · exact .inr (all_mem e d x hx l h)

theorem open_parts {H : Type} {enc : TypeId × Value → H} {W : World} {base : Nat} {v : Value} {d : DataW H} {p : List MemPlace} (hval : Value.okWide Tryd.prog W .any base 22 v) (h : DataW.Trod enc Tryd.prog W 0 (fun _ => true) true 22 v d p)
    (hw : ∀ x ∈ d.weights Tryd.prog 22, x ≤ reachBytes) :
    ∃ (ao : Option Addr) (n c : Nat) (ls : List (List Int)), v = .slice ao n c ∧ ls.length = n ∧ PIn W (.slice ao n c) ls ∧ (∀ l ∈ ls, ∀ x ∈ l, 0 ≤ x ∧ x < 256) ∧ n * 24 ≤ 140737488351232 ∧ ∀ l ∈ ls, l.length ≤ 140737488351232 := by
  obtain ⟨a1, len, cap, rfl⟩ := okWide_slice Tryd.underlying22 hval
  obtain ⟨fuel, hf⟩ := h
  rcases open_int_rows Tryd.underlying22 Tryd.underlying25 Tryd.underlying5 cells25 cells5 hf with ⟨hcs, hx⟩ | ⟨a, len', cap', A, L, C, Z, hcs, _, hl, hm, hx, hall⟩
  · simp [Value.cells] at hcs
    obtain ⟨rfl, rfl, rfl⟩ := hcs
    exact ⟨none, 0, 0, [], rfl, rfl, ⟨none, 0, rfl, fun i hi => absurd hi (by simp)⟩, fun l hl => (by cases hl), by omega, fun l hl => (by cases hl)⟩
  · simp [Value.cells] at hcs
    obtain ⟨rfl, rfl, rfl⟩ := hcs
    simp only [Prod.mk.injEq] at hx
    obtain ⟨rfl, rfl⟩ := hx
    have hn24 : len * 24 ≤ 140737488351232 := by
      have := hw ((len + (cap - len)) * 24) (by simp [DataW.weights, Tryd.underlying22, bytes25])
      simp only [reachBytes] at this
      omega
    have hLL : ∀ r, r < len → L r ≤ 140737488351232 := fun r hr => by
      obtain ⟨_, h1, _, h3, _, h5, _⟩ := hall r (by omega)
      cases hA : A r with
      | none =>
        have := h5 hA
        omega
      | some a' =>
        have hmem : (DataW.slice (lits .u8 ((Z r).take (L r))) (lits .u8 ((Z r).drop (L r))) : DataW H) ∈ (List.range len).map fun r => intRow IntKind.u8 (A r) (L r) (Z r) := by
          refine List.mem_map.2 ⟨r, List.mem_range.2 hr, ?_⟩
          rw [hA]
          rfl
        have := hw (C r) (by
          simp only [DataW.weights, Tryd.underlying22, List.mem_cons, List.mem_append]
          refine .inr (.inl (all_mem 25 _ _ ?_ _ hmem))
          simp [DataW.weights, Tryd.underlying25, bytes5, lits]
          omega)
        simp only [reachBytes] at this
        omega
    refine ⟨some a, len, cap, (List.range len).map fun r => (Z r).take (L r), rfl, by simp, ?_, fun l hl x hx => ?_, hn24, fun l hl => ?_⟩
    · refine ⟨some a, cap, by simp, fun i hi => ?_⟩
      have hi' : i < len := by simpa using hi
      obtain ⟨h0, h1, _, h3, _, h5, h6⟩ := hall i (by omega)
      obtain ⟨b, o, spot⟩ := a
      have hspot : spot = none := by simpa [Addr.add] using World.cell?_spot (hall 0 (by omega)).1
      subst hspot
      rw [Addr.add_mid] at h0
      refine ⟨b, o, _, rfl, h0, ?_⟩
      have hg : (((List.range len).map fun r => (Z r).take (L r)) : List (List Int)).getD i [] = (Z i).take (L i) := by simp [List.getD, hi']
      rw [hg]
      have hlz : ((Z i).take (L i)).length = L i := by simp; omega
      cases hA : A i with
      | none =>
        have := h5 hA
        exact ⟨none, C i, by rw [hlz], by omega, .inl (List.eq_nil_of_length_eq_zero (by omega))⟩
      | some a' =>
        by_cases hz : L i = 0
        · exact ⟨some a', C i, by rw [hlz], by omega, .inl (List.eq_nil_of_length_eq_zero (by omega))⟩
        · obtain ⟨_, hc⟩ := h6 a' hA
          obtain ⟨b', o', spot'⟩ := a'
          have hspot' : spot' = none := by simpa [Addr.add] using World.cell?_spot (hc 0 (by omega))
          subst hspot'
          refine ⟨_, C i, by rw [hlz], by omega, .inr ⟨b', o', rfl, fun j hj => ?_⟩⟩
          rw [hlz] at hj
          have := hc j (by omega)
          rw [Addr.add_mid] at this
          rw [this]
          simp [List.getD, List.getElem?_take, hj]
    · obtain ⟨r, hr, rfl⟩ := List.mem_map.1 hl
      obtain ⟨_, _, _, _, h4, _⟩ := hall r (by have := List.mem_range.1 hr; omega)
      have b := bounds_u8 (h4 x (List.mem_of_mem_take hx))
      omega
    · obtain ⟨r, hr, rfl⟩ := List.mem_map.1 hl
      have := hLL r (List.mem_range.1 hr)
      simp
      omega

set_option maxRecDepth 100000 in
theorem lifted (os : Os) (started : os.Started) (H : Type) (enc : TypeId × Value → H) :
    ReturnsInHanded {} Tryd.checked os 3 .any (fun w args => (Rows.sumOfSpec.pre enc Tryd.prog Tryd.f3 [] false w args ∧ laidMetH Tryd.prog laidT w) ∧ sizedMet enc Tryd.prog Tryd.f3 (OpenSpec.ofChange Rows.sumOfSpec) false w args)
      (Rows.sumOfSpec.post enc Tryd.prog Tryd.f3 false true false false) := by
  refine returnsInHanded_of_change_and (C := Tryd.checked) (X := fun w _ => laidMetH Tryd.prog laidT w) (fun _ _ _ hh h => h.of_heap hh) own started (by kernel_rfl) Tryd.func3
    (ChangeSpec.witness_shaped (enc := enc) (C := Tryd.checked) (os := os) (X := fun w _ => laidMetH Tryd.prog laidT w) false (World.doorLaid Tryd.prog 400 os) #[.slice none 0 0] 8 rfl (World.shaped_of_RefB (by kernel_rfl) (by kernel_rfl)) (by kernel_rfl) (by kernel_rfl) (by kernel_rfl) (door_met os _)) ?_
  intro W base args ds gs before hval0 hW _ hsz0 hL _
  have hsz : (DataW.weightsEach Tryd.prog (Tryd.f3.params.toList ++ Rows.sumOfSpec.plain.varTypes Tryd.prog) (ds ++ gs)).all (· ≤ reachBytes) = true := hsz0
  clear hsz0
  have hval : ∀ (j : Nat) t v, Tryd.f3.params[j]? = some t → args[j]? = some v → Value.okWide Tryd.prog W .any base t v := hval0
  have hW' := hW
  obtain ⟨p, q, hA0, hV, rfl, hfz, hnd⟩ := hW
  have hA : DataW.TrodAll enc Tryd.prog W 0 (fun _ => true) true Tryd.f3.params.toList args.toList ds p := hA0
  rw [Tryd.params3] at hA hval hsz
  obtain ⟨v0, vs0, d0, ds0, p0, q0, hargs, rfl, rfl, h0, r0⟩ := trodAll_cons hA
  obtain ⟨rfl, rfl, rfl⟩ := trodAll_nil r0
  obtain rfl : args = #[v0] := by cases args; simp_all
  obtain ⟨rfl, rfl⟩ := trodVars_none hV
  have k0 := h0
  have lt0 : ∀ x ∈ p0, x.block < W.heap.size := by obtain ⟨m, hm⟩ := k0; exact DataW.trod_lt m _ _ _ hm
  have hw0 : ∀ x ∈ d0.weights Tryd.prog 22, x ≤ reachBytes := fun x hx => by
    have := List.all_eq_true.1 hsz _ (DataW.weights_mem_each (j := 0) (t := 22) rfl rfl x hx)
    simpa using this
  obtain ⟨ao, n, c, ls, rfl, hN, hP, hr, hn24, hlen⟩ := open_parts (hval 0 22 v0 rfl rfl) h0 hw0
  clear hA0 hval0
  have walk : Calls Tryd.prog 3 #[.slice ao n c] W fun e w' => e = .returned (.bool true) ∧ Kept (fun _ => False) W w' := by
    by_cases hT : ls.flatten.length ≤ 2147483647
    · exact sumOf_near ao n c ls W hP hN hr (laid_of hL) hn24 hlen hT
    · exact sumOf_far _ ls W hP (laid_of hL) (by omega) (fun l hl => by have := hlen l hl; omega) (by omega)
  refine walk.mono fun e W' ⟨he, hk⟩ => ?_
  have bel : Below W.heap.size W W' := hk.below (Nat.le_refl _) (fun _ f => f.elim)
  subst he
  exact ⟨_, rfl, _, _, _, [], _, [], hW', trodAll_mk1 (shut_bool Tryd.underlying4 _), (trodAll_cons_mk (Below.trod laidOut (by kernel_rfl) (of_decide_eq_true (by kernel_rfl)) k0 bel lt0) trodAll_mk0), rfl, bel.frame _, fun h => by cases h⟩

theorem over : Rows.SumOfSaid :=
  OpenClaim.holds_of_wide 3 Tryd.f3 rfl rfl rfl rfl rfl rfl rfl ⟨rfl, rfl, rfl, rfl, rfl⟩ rfl rfl rfl rfl rfl (by kernel_rfl) Tryd.func3 (by kernel_rfl)
    (of_decide_eq_true (by kernel_rfl)) (by unfold Func.isWrapper; first | (rw [if_pos (by decide +kernel)]; kernel_rfl) | (rw [if_neg (by decide +kernel)]; exact ⟨rfl, rfl⟩))
    (fun os started H enc _ => lifted os started H enc)

theorem card : Rows.SumOfCardSaid :=
  Claim7.holds_tied_plain_at .later [] [.data] true (true, "d34bb0c5f03d9af7842788eb30728a9b64f7fbc949258aaa085adf86c7bb4200") false
    over (fun _ h => by cases h) (by kernel_rfl) (fun _ h => by cases h) sumOf_row_tie rfl ⟨rfl, rfl⟩ (by kernel_rfl) rfl
    (fun f fn hf hfn => by
      obtain rfl : f = 3 := Option.some.inj ((show Tryd.prog.funcNamed "retort/retortlaw2.SumOf" = some 3 by kernel_rfl).symm.trans hf) |>.symm
      obtain rfl : fn = Tryd.f3 := (Option.some.inj (Tryd.func3.symm.trans hfn)).symm
      exact ⟨by kernel_rfl, fun j t ht => by
        rw [Tryd.params3] at ht
        have hm : t ∈ [22] := by simpa using Array.mem_of_getElem? ht
        have hall : ([22].all fun u => !Tryd.prog.wantsStandIn u) = true := by kernel_rfl
        exact (show Tryd.prog.wantsStandIn t = false by simpa using List.all_eq_true.1 hall t hm)⟩)
    (by kernel_rfl)
end sumOf

theorem sumOf_holds : Rows.SumOfCardSaid := sumOf.card
#print axioms sumOf_holds
end Go.Proofs.YtdbogfjkaebeoaaDoor

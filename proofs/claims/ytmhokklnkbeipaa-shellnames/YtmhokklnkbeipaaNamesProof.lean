/-
  ShellNames: words of errors, one contract each; the law's walk.
-/
import Derived.Test.YtmhokklnkbeipaaRows
import Derived.WalkKit
import Derived.ProofKit
import Derived.OpenShut
namespace Go.Proofs.Ytmhokklnkbeipaa
open Go.ChangeShapes Go.WideShapes Go.ChangeAt Go.RowKit
set_option linter.unusedVariables false
set_option linter.unusedSimpArgs false
set_option maxRecDepth 100000

theorem own : ownKnob Try.prog.godebug = none := by kernel_rfl

theorem w5n0 (w : World) : Calls Try.prog 5 #[.int .i64 0] w fun x w' => x = .returned (.string ⟨#[111, 107]⟩) ∧ w' = w := by
  go_enter Try.func5, Try.ntmps5
  go_wp2
  go_ret
  exact ⟨rfl, rfl⟩

theorem w5n1 (w : World) : Calls Try.prog 5 #[.int .i64 1] w fun x w' => x = .returned (.string ⟨#[97, 114, 103]⟩) ∧ w' = w := by
  go_enter Try.func5, Try.ntmps5
  go_wp2
  go_ret
  exact ⟨rfl, rfl⟩

theorem w5n2 (w : World) : Calls Try.prog 5 #[.int .i64 2] w fun x w' => x = .returned (.string ⟨#[108, 111, 110, 103]⟩) ∧ w' = w := by
  go_enter Try.func5, Try.ntmps5
  go_wp2
  go_ret
  exact ⟨rfl, rfl⟩

theorem w5n3 (w : World) : Calls Try.prog 5 #[.int .i64 3] w fun x w' => x = .returned (.string ⟨#[119, 105, 100, 116, 104]⟩) ∧ w' = w := by
  go_enter Try.func5, Try.ntmps5
  go_wp2
  go_ret
  exact ⟨rfl, rfl⟩

theorem w5n41 (w : World) : Calls Try.prog 5 #[.int .i64 41] w fun x w' => x = .returned (.string ⟨#[109, 105, 115, 115, 105, 110, 103]⟩) ∧ w' = w := by
  go_enter Try.func5, Try.ntmps5
  go_wp2
  go_ret
  exact ⟨rfl, rfl⟩

theorem w5n42 (w : World) : Calls Try.prog 5 #[.int .i64 42] w fun x w' => x = .returned (.string ⟨#[99, 111, 114, 114, 117, 112, 116]⟩) ∧ w' = w := by
  go_enter Try.func5, Try.ntmps5
  go_wp2
  go_ret
  exact ⟨rfl, rfl⟩

theorem w5n43 (w : World) : Calls Try.prog 5 #[.int .i64 43] w fun x w' => x = .returned (.string ⟨#[102, 117, 108, 108]⟩) ∧ w' = w := by
  go_enter Try.func5, Try.ntmps5
  go_wp2
  go_ret
  exact ⟨rfl, rfl⟩

theorem w5n44 (w : World) : Calls Try.prog 5 #[.int .i64 44] w fun x w' => x = .returned (.string ⟨#[99, 108, 97, 115, 104]⟩) ∧ w' = w := by
  go_enter Try.func5, Try.ntmps5
  go_wp2
  go_ret
  exact ⟨rfl, rfl⟩

theorem w5n52 (w : World) : Calls Try.prog 5 #[.int .i64 52] w fun x w' => x = .returned (.string ⟨#[116, 97, 103]⟩) ∧ w' = w := by
  go_enter Try.func5, Try.ntmps5
  go_wp2
  go_ret
  exact ⟨rfl, rfl⟩

theorem w5n62 (w : World) : Calls Try.prog 5 #[.int .i64 62] w fun x w' => x = .returned (.string ⟨#[110, 111, 100, 101, 115]⟩) ∧ w' = w := by
  go_enter Try.func5, Try.ntmps5
  go_wp2
  go_ret
  exact ⟨rfl, rfl⟩

theorem w5n64 (w : World) : Calls Try.prog 5 #[.int .i64 64] w fun x w' => x = .returned (.string ⟨#[105, 116, 101, 109, 115]⟩) ∧ w' = w := by
  go_enter Try.func5, Try.ntmps5
  go_wp2
  go_ret
  exact ⟨rfl, rfl⟩

theorem w5n65 (w : World) : Calls Try.prog 5 #[.int .i64 65] w fun x w' => x = .returned (.string ⟨#[107, 101, 101, 112]⟩) ∧ w' = w := by
  go_enter Try.func5, Try.ntmps5
  go_wp2
  go_ret
  exact ⟨rfl, rfl⟩

theorem w5n141 (w : World) : Calls Try.prog 5 #[.int .i64 141] w fun x w' => x = .returned (.string ⟨#[108, 105, 110, 101]⟩) ∧ w' = w := by
  go_enter Try.func5, Try.ntmps5
  go_wp2
  go_ret
  exact ⟨rfl, rfl⟩

theorem w5n142 (w : World) : Calls Try.prog 5 #[.int .i64 142] w fun x w' => x = .returned (.string ⟨#[108, 97, 98, 101, 108]⟩) ∧ w' = w := by
  go_enter Try.func5, Try.ntmps5
  go_wp2
  go_ret
  exact ⟨rfl, rfl⟩

theorem w5n171 (w : World) : Calls Try.prog 5 #[.int .i64 171] w fun x w' => x = .returned (.string ⟨#[115, 121, 110, 116, 97, 120]⟩) ∧ w' = w := by
  go_enter Try.func5, Try.ntmps5
  go_wp2
  go_ret
  exact ⟨rfl, rfl⟩

theorem w5n173 (w : World) : Calls Try.prog 5 #[.int .i64 173] w fun x w' => x = .returned (.string ⟨#[117, 110, 115, 101, 116]⟩) ∧ w' = w := by
  go_enter Try.func5, Try.ntmps5
  go_wp2
  go_ret
  exact ⟨rfl, rfl⟩

theorem w5n192 (w : World) : Calls Try.prog 5 #[.int .i64 192] w fun x w' => x = .returned (.string ⟨#[108, 105, 109, 105, 116, 115]⟩) ∧ w' = w := by
  go_enter Try.func5, Try.ntmps5
  go_wp2
  go_ret
  exact ⟨rfl, rfl⟩

theorem w5n201 (w : World) : Calls Try.prog 5 #[.int .i64 201] w fun x w' => x = .returned (.string ⟨#[113, 117, 101, 117, 101]⟩) ∧ w' = w := by
  go_enter Try.func5, Try.ntmps5
  go_wp2
  go_ret
  exact ⟨rfl, rfl⟩

theorem w5n211 (w : World) : Calls Try.prog 5 #[.int .i64 211] w fun x w' => x = .returned (.string ⟨#[119, 111, 114, 100]⟩) ∧ w' = w := by
  go_enter Try.func5, Try.ntmps5
  go_wp2
  go_ret
  exact ⟨rfl, rfl⟩

theorem w5n999 (w : World) : Calls Try.prog 5 #[.int .i64 999] w fun x w' => x = .returned (.string ⟨#[101, 114, 114, 111, 114]⟩) ∧ w' = w := by
  go_enter Try.func5, Try.ntmps5
  go_wp2
  go_ret
  exact ⟨rfl, rfl⟩

theorem w6n1 (w : World) : Calls Try.prog 6 #[.int .i64 1] w fun x w' => x = .returned (.string ⟨#[102, 117, 101, 108]⟩) ∧ w' = w := by
  go_enter Try.func6, Try.ntmps6
  go_wp2
  go_ret
  exact ⟨rfl, rfl⟩

theorem w6n4 (w : World) : Calls Try.prog 6 #[.int .i64 4] w fun x w' => x = .returned (.string ⟨#[98, 111, 117, 110, 100, 115]⟩) ∧ w' = w := by
  go_enter Try.func6, Try.ntmps6
  go_wp2
  go_ret
  exact ⟨rfl, rfl⟩

theorem w6n0 (w : World) : Calls Try.prog 6 #[.int .i64 0] w fun x w' => x = .returned (.string ⟨#[110, 111, 110, 101]⟩) ∧ w' = w := by
  go_enter Try.func6, Try.ntmps6
  go_wp2
  go_ret
  exact ⟨rfl, rfl⟩

set_option maxHeartbeats 8000000 in
theorem words_any (w : World) : Calls Try.prog 4 #[] w fun x w' => x = .returned (.bool true) ∧ w' = w := by
  go_enter Try.func4, Try.ntmps4
  go_wp2_with fail
  refine (w5n0 _).mono ?_
  rintro x w' ⟨rfl, hw⟩
  have hw := hw.symm
  subst hw
  go_wp2_with fail
  refine (w5n1 _).mono ?_
  rintro x w' ⟨rfl, hw⟩
  have hw := hw.symm
  subst hw
  go_wp2_with fail
  refine (w5n2 _).mono ?_
  rintro x w' ⟨rfl, hw⟩
  have hw := hw.symm
  subst hw
  go_wp2_with fail
  refine (w5n3 _).mono ?_
  rintro x w' ⟨rfl, hw⟩
  have hw := hw.symm
  subst hw
  go_wp2_with fail
  refine (w5n41 _).mono ?_
  rintro x w' ⟨rfl, hw⟩
  have hw := hw.symm
  subst hw
  go_wp2_with fail
  refine (w5n42 _).mono ?_
  rintro x w' ⟨rfl, hw⟩
  have hw := hw.symm
  subst hw
  go_wp2_with fail
  refine (w5n43 _).mono ?_
  rintro x w' ⟨rfl, hw⟩
  have hw := hw.symm
  subst hw
  go_wp2_with fail
  refine (w5n44 _).mono ?_
  rintro x w' ⟨rfl, hw⟩
  have hw := hw.symm
  subst hw
  go_wp2_with fail
  refine (w5n52 _).mono ?_
  rintro x w' ⟨rfl, hw⟩
  have hw := hw.symm
  subst hw
  go_wp2_with fail
  refine (w5n62 _).mono ?_
  rintro x w' ⟨rfl, hw⟩
  have hw := hw.symm
  subst hw
  go_wp2_with fail
  refine (w5n64 _).mono ?_
  rintro x w' ⟨rfl, hw⟩
  have hw := hw.symm
  subst hw
  go_wp2_with fail
  refine (w5n65 _).mono ?_
  rintro x w' ⟨rfl, hw⟩
  have hw := hw.symm
  subst hw
  go_wp2_with fail
  refine (w5n141 _).mono ?_
  rintro x w' ⟨rfl, hw⟩
  have hw := hw.symm
  subst hw
  go_wp2_with fail
  refine (w5n142 _).mono ?_
  rintro x w' ⟨rfl, hw⟩
  have hw := hw.symm
  subst hw
  go_wp2_with fail
  refine (w5n171 _).mono ?_
  rintro x w' ⟨rfl, hw⟩
  have hw := hw.symm
  subst hw
  go_wp2_with fail
  refine (w5n173 _).mono ?_
  rintro x w' ⟨rfl, hw⟩
  have hw := hw.symm
  subst hw
  go_wp2_with fail
  refine (w5n192 _).mono ?_
  rintro x w' ⟨rfl, hw⟩
  have hw := hw.symm
  subst hw
  go_wp2_with fail
  refine (w5n201 _).mono ?_
  rintro x w' ⟨rfl, hw⟩
  have hw := hw.symm
  subst hw
  go_wp2_with fail
  refine (w5n211 _).mono ?_
  rintro x w' ⟨rfl, hw⟩
  have hw := hw.symm
  subst hw
  go_wp2_with fail
  refine (w5n999 _).mono ?_
  rintro x w' ⟨rfl, hw⟩
  have hw := hw.symm
  subst hw
  go_wp2_with fail
  refine (w6n1 _).mono ?_
  rintro x w' ⟨rfl, hw⟩
  have hw := hw.symm
  subst hw
  go_wp2_with fail
  refine (w6n4 _).mono ?_
  rintro x w' ⟨rfl, hw⟩
  have hw := hw.symm
  subst hw
  go_wp2_with fail
  refine (w6n0 _).mono ?_
  rintro x w' ⟨rfl, hw⟩
  have hw := hw.symm
  subst hw
  go_wp2
  go_ret
  exact ⟨rfl, rfl⟩

theorem walk (w : World) :
    Calls Try.prog 3 #[] w fun e w' => e = .returned (.bool true) ∧ Grown w w' := by
  go_enter Try.func3, Try.ntmps3
  go_wp2_with fail
  refine (words_any _).mono ?_
  rintro x w' ⟨rfl, hw⟩
  have hw := hw.symm
  subst hw
  go_wp2
  go_ret
  exact ⟨rfl, Grown.refl _⟩

set_option maxRecDepth 100000 in
theorem lifted (os : Os) (started : os.Started) (H : Type) (enc : TypeId × Value → H) :
    ReturnsInHanded {} Try.checked os 3 .any (Rows.shellNamesSpec.pre6 enc Try.prog Try.f3 Rows.shellNamesRow.domain false) (Rows.shellNamesSpec.post enc Try.prog Try.f3 false true false false) := by
  refine returnsInHanded_of_change (C := Try.checked) own started (by kernel_rfl) Try.func3
    (ChangeSpec.witness6 (enc := enc) (C := Try.checked) false ⟨#[], #[], []⟩ 8 (by kernel_rfl) (by kernel_rfl) (by kernel_rfl) (by kernel_rfl)) ?_
  intro W base args ds gs before hval0 hW hcnd _
  have hval : ∀ (j : Nat) t v, Try.f3.params[j]? = some t → args[j]? = some v → Value.okWide Try.prog W .any base t v := hval0
  have hW' := hW
  obtain ⟨p, q, hA0, hV, rfl, hfz, hnd⟩ := hW
  have hA : DataW.TrodAll enc Try.prog W 0 (fun _ => true) true Try.f3.params.toList args.toList ds p := hA0
  rw [Try.params3] at hA hval
  obtain ⟨rfl, rfl, rfl⟩ := trodAll_none hA
  obtain ⟨rfl, rfl⟩ := trodVars_none hV
  clear hA0 hval0
  simp only [List.append_nil] at hW'
  refine (walk  W).mono fun e W' ⟨he, hg⟩ => ?_
  subst he
  exact ⟨_, rfl, post_of_same (pa := []) (pv := []) hW' (fun _ _ _ => (trodAll_cons_mk (shut_bool Try.underlying4 _) trodAll_mk0)) (fun sp _ => rfl) (fun _ _ => rfl) rfl
    (hg.frame _) hg.2.1 (ok_one (by kernel_rfl) rfl (okWide_bool_mk Try.underlying4 _))⟩

theorem names_over : Rows.shellNamesRow.holds Try.pinned (OpenSpec.ofChange Rows.shellNamesSpec) :=
  OpenClaim.holds_of_wide 3 Try.f3 rfl rfl rfl rfl rfl rfl rfl ⟨rfl, rfl, rfl, rfl, rfl⟩ rfl rfl rfl rfl rfl (by kernel_rfl) Try.func3 (by kernel_rfl)
    (of_decide_eq_true (by kernel_rfl)) (by unfold Func.isWrapper; first | (rw [if_pos (by decide +kernel)]; kernel_rfl) | (rw [if_neg (by decide +kernel)]; exact ⟨rfl, rfl⟩))
    (fun os started H enc _ => lifted os started H enc)


theorem shellNames_holds : Rows.ShellNamesSaid :=
  names_over

#print axioms shellNames_holds
end Go.Proofs.Ytmhokklnkbeipaa

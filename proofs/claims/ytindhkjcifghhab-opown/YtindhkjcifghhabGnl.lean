/-
  Grown of no rows.
-/
import Derived.Test.YtindhkjcifghhabGwb
import Derived.Test.YtindhkjcifghhabGwi
import Derived.Test.YtindhkjcifghhabPb
namespace Go.Proofs.Ytindhkjcifghhab
open Go.ChangeShapes Go.WideShapes Go.ChangeAt Go.RowKit Go.Deep
set_option linter.unusedVariables false
set_option linter.unusedSimpArgs false

set_option maxRecDepth 100000 in
set_option maxHeartbeats 4000000 in
theorem grownB_nil (w : World) : Calls Try.prog 12 #[.slice none 0 0] w fun e w' => e = .returned (.bool true) ∧ Kept (fun _ => False) w w' := by
  obtain ⟨i26, hi26, z260, z261, z262⟩ := info_parts Try.info26
  have hrun : (Builtin.append_ #[24, 24] 24 #[.slice none 0 0, .slice none 0 0]).run Try.prog w = .ok (.slice none 0 0) w := by
    simp [Builtin.append_, run_underlying Try.underlying24, sizeOf, typeInfo, hi26, Builtin.lenOf, Builtin.firstCells]
  go_enter Try.func12, Try.ntmps12
  go_wp2_with fail
  go_loop [3] (fun i => i = .int .i64 0) (fun _ => 0)
  case atStart => rfl
  case round =>
    subst hrel
    go_wp2_with (at_builtin; refine wp_app2 rfl (.tmp 44) (.tmp 45) 24 24 rfl _ _ rfl rfl _ _ hrun ?_)
    go_loop [6] (fun j => ∃ m : Nat, m ≤ 96 ∧ j = .int .i64 m) (fun j => 96 - (intOf j).toNat)
    case atStart => exact ⟨0, by omega, rfl⟩
    case round =>
      obtain ⟨m, hm, rfl⟩ := hrel
      by_cases hml : m < 96
      · have hmlI : (m : Int) < 96 := by omega
        go_wp2_with fail
        go_loop [7] (fun i => i = .int .i64 0) (fun _ => 0)
        case atStart => rfl
        case round =>
          subst hrel
          go_wp2
          go_round
          case rel => exact ⟨m + 1, by omega, by go_num⟩
          case measure => simp [intOf]; omega
      · have hmI : ¬ ((m : Int) < 96) := by omega
        go_wp2_with fail
        go_loop [8] (fun i => i = .int .i64 0) (fun _ => 0)
        case atStart => rfl
        case round =>
          subst hrel
          go_wp2
          go_ret
          exact ⟨rfl, Kept.refl _ _⟩

set_option maxRecDepth 100000 in
set_option maxHeartbeats 4000000 in
theorem grownI_nil (w : World) : Calls Try.prog 11 #[.slice none 0 0] w fun e w' => e = .returned (.bool true) ∧ Kept (fun _ => False) w w' := by
  obtain ⟨i22, hi22, z220, z221, z222⟩ := info_parts Try.info22
  have hrun : (Builtin.append_ #[25, 25] 25 #[.slice none 0 0, .slice none 0 0]).run Try.prog w = .ok (.slice none 0 0) w := by
    simp [Builtin.append_, run_underlying Try.underlying25, sizeOf, typeInfo, hi22, Builtin.lenOf, Builtin.firstCells]
  go_enter Try.func11, Try.ntmps11
  go_wp2_with fail
  go_loop [3] (fun i => i = .int .i64 0) (fun _ => 0)
  case atStart => rfl
  case round =>
    subst hrel
    go_wp2_with (at_builtin; refine wp_app2 rfl (.tmp 37) (.tmp 38) 25 25 rfl _ _ rfl rfl _ _ hrun ?_)
    go_loop [6] (fun j => ∃ m : Nat, m ≤ 20 ∧ j = .int .i64 m) (fun j => 20 - (intOf j).toNat)
    case atStart => exact ⟨0, by omega, rfl⟩
    case round =>
      obtain ⟨m, hm, rfl⟩ := hrel
      by_cases hml : m < 20
      · have hmlI : (m : Int) < 20 := by omega
        go_wp2_with fail
        go_loop [7] (fun i => i = .int .i64 0) (fun _ => 0)
        case atStart => rfl
        case round =>
          subst hrel
          go_wp2
          go_round
          case rel => exact ⟨m + 1, by omega, by go_num⟩
          case measure => simp [intOf]; omega
      · have hmI : ¬ ((m : Int) < 20) := by omega
        go_wp2_with fail
        go_loop [8] (fun i => i = .int .i64 0) (fun _ => 0)
        case atStart => rfl
        case round =>
          subst hrel
          go_wp2
          go_ret
          exact ⟨rfl, Kept.refl _ _⟩

/-- Grown of bytes, of any rows. -/
theorem grownB_any (lv : Value) (ls : List RL) (w : World) (h : RLs 5 26 1 w lv ls) (h0 : ls = [] → lv = .slice none 0 0) (hn : ls.length ≤ 200) (hlong : ∀ i, i < ls.length → (rlAt ls i).n ≤ 4194304) :
    Calls Try.prog 12 #[lv] w fun e w' => e = .returned (.bool true) ∧ Kept (Blk ls) w w' := by
  by_cases hp : 0 < ls.length
  · obtain ⟨g, c, rfl⟩ := own_at h.row hp
    exact grownB_some g c ls.length ls w h rfl hn hp hlong
  · rw [h0 (List.length_eq_zero_iff.1 (by omega))]
    exact (grownB_nil w).mono fun e w' h => ⟨h.1, h.2.mono (fun _ _ f => f.elim)⟩
theorem grownI_any (lv : Value) (ls : List RL) (w : World) (h : RLs 42 22 2 w lv ls) (h0 : ls = [] → lv = .slice none 0 0) (hn : ls.length ≤ 200) (hlong : ∀ i, i < ls.length → (rlAt ls i).n ≤ 4194304) :
    Calls Try.prog 11 #[lv] w fun e w' => e = .returned (.bool true) ∧ Kept (Blk ls) w w' := by
  by_cases hp : 0 < ls.length
  · obtain ⟨g, c, rfl⟩ := own_at h.row hp
    exact grownI_some g c ls.length ls w h rfl hn hp hlong
  · rw [h0 (List.length_eq_zero_iff.1 (by omega))]
    exact (grownI_nil w).mono fun e w' h => ⟨h.1, h.2.mono (fun _ _ f => f.elim)⟩
end Go.Proofs.Ytindhkjcifghhab

/-
  Grown of no rows.
-/
import Derived.Test.YtcpkbajmilkhpabGreatDoorGwb
import Derived.Test.YtcpkbajmilkhpabGreatDoorGwe
import Derived.Test.YtcpkbajmilkhpabGreatDoorNls
namespace Go.Proofs.YtcpkbajmilkhpabGreatDoor
open Go.ChangeShapes Go.WideShapes Go.ChangeAt Go.RowKit Go.Deep
set_option linter.unusedVariables false
set_option linter.unusedSimpArgs false

set_option maxRecDepth 100000 in
set_option maxHeartbeats 4000000 in
theorem grownB_nil (w : World) : Calls Tryz.prog 17 #[.slice none 0 0] w fun e w' => e = .returned (.bool true) ∧ Kept (fun _ => False) w w' := by
  obtain ⟨i26, hi26, z260, z261, z262⟩ := info_parts Tryz.info27
  have hrun : (Builtin.append_ #[25, 25] 25 #[.slice none 0 0, .slice none 0 0]).run Tryz.prog w = .ok (.slice none 0 0) w := by
    simp [Builtin.append_, run_underlying Tryz.underlying25, sizeOf, typeInfo, hi26, Builtin.lenOf, Builtin.firstCells]
  go_enter Tryz.func17, Tryz.ntmps17
  go_wp2_with fail
  go_loop [3] (fun i => i = .int .i64 0) (fun _ => 0)
  case atStart => rfl
  case round =>
    subst hrel
    go_wp2_with (at_builtin; refine wp_app2 rfl (.tmp 44) (.tmp 45) 25 25 rfl _ _ rfl rfl _ _ hrun ?_)
    go_loop [6] (fun j => ∃ m : Nat, m ≤ 96 ∧ j = .int .i64 m) (fun j => 96 - (intOf j).toNat)
    case atStart => exact ⟨0, by omega, rfl⟩
    case round =>
      obtain ⟨m, hm, rfl⟩ := hrel
      by_cases hml : m < 96
      · have hmlI : (m : Int) < 96 := by omega
        go_wp2_with fail
        go_loop [7] (fun i => i = .int .i64 0) (fun _ => 0)
        case atStart => rfl
        case round =>
          subst hrel
          go_wp2
          go_round
          case rel => exact ⟨m + 1, by omega, by go_num⟩
          case measure => simp [intOf]; omega
      · have hmI : ¬ ((m : Int) < 96) := by omega
        go_wp2_with fail
        go_loop [8] (fun i => i = .int .i64 0) (fun _ => 0)
        case atStart => rfl
        case round =>
          subst hrel
          go_wp2
          go_ret
          exact ⟨rfl, Kept.refl _ _⟩

set_option maxRecDepth 100000 in
set_option maxHeartbeats 4000000 in
theorem grownE_nil (w : World) : Calls Tryz.prog 16 #[.slice none 0 0] w fun e w' => e = .returned (.bool true) ∧ Kept (fun _ => False) w w' := by
  obtain ⟨i22, hi22, z220, z221, z222⟩ := info_parts Tryz.info22'
  have hrun : (Builtin.append_ #[26, 26] 26 #[.slice none 0 0, .slice none 0 0]).run Tryz.prog w = .ok (.slice none 0 0) w := by
    simp [Builtin.append_, run_underlying Tryz.underlying26, sizeOf, typeInfo, hi22, Builtin.lenOf, Builtin.firstCells]
  go_enter Tryz.func16, Tryz.ntmps16
  go_wp2_with fail
  go_loop [3] (fun i => i = .int .i64 0) (fun _ => 0)
  case atStart => rfl
  case round =>
    subst hrel
    go_wp2_with (at_builtin; refine wp_app2 rfl (.tmp 43) (.tmp 44) 26 26 rfl _ _ rfl rfl _ _ hrun ?_)
    go_loop [6] (fun j => ∃ m : Nat, m ≤ 20 ∧ j = .int .i64 m) (fun j => 20 - (intOf j).toNat)
    case atStart => exact ⟨0, by omega, rfl⟩
    case round =>
      obtain ⟨m, hm, rfl⟩ := hrel
      by_cases hml : m < 20
      · have hmlI : (m : Int) < 20 := by omega
        go_wp2_with fail
        go_loop [7] (fun i => i = .int .i64 0) (fun _ => 0)
        case atStart => rfl
        case round =>
          subst hrel
          go_wp2
          go_round
          case rel => exact ⟨m + 1, by omega, by go_num⟩
          case measure => simp [intOf]; omega
      · have hmI : ¬ ((m : Int) < 20) := by omega
        go_wp2_with fail
        go_loop [8] (fun i => i = .int .i64 0) (fun _ => 0)
        case atStart => rfl
        case round =>
          subst hrel
          go_wp2
          go_ret
          exact ⟨rfl, Kept.refl _ _⟩

/-- Grown of bytes, of any rows. -/
theorem grownB_any (lv : Value) (ls : List RL) (w : World) (h : RLs 5 27 1 w lv ls) (h0 : ls = [] → lv = .slice none 0 0) (hn : ls.length ≤ 200) (hlong : ∀ i, i < ls.length → (rlAt ls i).n ≤ 4194304) :
    Calls Tryz.prog 17 #[lv] w fun e w' => e = .returned (.bool true) ∧ Kept (Blk ls) w w' := by
  by_cases hp : 0 < ls.length
  · obtain ⟨g, c, rfl⟩ := own_at h.row hp
    exact grownB_some g c ls.length ls w h rfl hn hp hlong
  · rw [h0 (List.length_eq_zero_iff.1 (by omega))]
    exact (grownB_nil w).mono fun e w' h => ⟨h.1, h.2.mono (fun _ _ f => f.elim)⟩
theorem grownE_any (lv : Value) (ls : List RL) (w : World) (h : RLs 41 22 34 w lv ls) (h0 : ls = [] → lv = .slice none 0 0) (hn : ls.length ≤ 200) (hlong : ∀ i, i < ls.length → (rlAt ls i).n ≤ 4194304) :
    Calls Tryz.prog 16 #[lv] w fun e w' => e = .returned (.bool true) ∧ Kept (Blk ls) w w' := by
  by_cases hp : 0 < ls.length
  · obtain ⟨g, c, rfl⟩ := own_at h.row hp
    exact grownE_some g c ls.length ls w h rfl hn hp hlong
  · rw [h0 (List.length_eq_zero_iff.1 (by omega))]
    exact (grownE_nil w).mono fun e w' h => ⟨h.1, h.2.mono (fun _ _ f => f.elim)⟩
end Go.Proofs.YtcpkbajmilkhpabGreatDoor

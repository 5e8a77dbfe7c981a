/-
  Store.All of an empty Store, by contract.
-/
import Derived.Test.YtjdbmjkidljhpaaDoorCall
namespace Go.Proofs.YtjdbmjkidljhpaaDoor
open Go.RowKit
set_option linter.unusedVariables false
set_option linter.unusedSimpArgs false
set_option maxRecDepth 100000

theorem collect_none (Bn : Nat) (w : World) (hBn : Bn < w.heap.size) (hc : w.cell? ⟨Bn, 0, none⟩ = some (.map none)) :
    Calls Tryd.prog 60 #[.func (.func 62) #[] #[.pointer (some ⟨Bn, 0, none⟩)]] w fun e w' => e = .returned (.slice none 0 0) ∧ Kept (fun _ => False) w w' := by
  have HA := hid_of (aseq_none Bn w hBn hc)
  clear hc
  go_enter Tryd.func60, Tryd.ntmps60
  go_wp2_with fail
  refine HA.out.mono ?_
  rintro e w1 ⟨rfl, hk⟩
  have HK := hid_of hk
  clear hk
  go_wp2
  go_ret
  exact ⟨rfl, HK.out⟩

set_option maxHeartbeats 1000000 in
theorem isort_none (w : World) : Calls Tryd.prog 73 #[.slice none 0 0, .int .i64 0, .int .i64 0, .func (.func 51) #[] #[]] w fun e w' => e = .returned (.tuple #[]) ∧ w' = w := by
  go_enter Tryd.func73, Tryd.ntmps73
  go_wp2
  go_loopw [8] (fun i wr => i = .int .i64 1 ∧ wr = w) (fun _ _ => 0)
  case atStart => exact ⟨rfl, rfl⟩
  case round =>
    obtain ⟨rfl, rfl⟩ := hrel
    go_wp2
    go_end0
    exact ⟨rfl, rfl⟩

set_option maxHeartbeats 2000000 in
theorem pdq_none (l : Int) (w : World) : Calls Tryd.prog 69 #[.slice none 0 0, .int .i64 0, .int .i64 0, .int .i64 l, .func (.func 51) #[] #[]] w fun e w' => e = .returned (.tuple #[]) ∧ w' = w := by
  have HI := hid_of isort_none
  go_enter Tryd.func69, Tryd.ntmps69
  go_wp2
  go_loopw [1, 2, 12] (fun a b _ wr => a = .int .i64 0 ∧ b = .int .i64 0 ∧ wr = w) (fun _ _ _ _ => 0)
  case atStart => exact ⟨rfl, rfl, rfl⟩
  case round =>
    obtain ⟨rfl, rfl, rfl⟩ := hrel
    go_wp2_with fail
    refine (HI.out _).mono ?_
    rintro e w1 ⟨rfl, rfl⟩
    go_wp2
    exact body_retv rfl rfl ⟨rfl, rfl⟩

theorem bits_zero (w : World) : Calls Tryd.prog 70 #[.int .u64 0] w fun e w' => ∃ l, e = .returned (.int .i64 l) ∧ w' = w := by
  go_enter Tryd.func70, Tryd.ntmps70
  go_wp2
  go_ret
  exact ⟨_, rfl, rfl⟩

theorem sortf_none (w : World) : Calls Tryd.prog 61 #[.slice none 0 0, .func (.func 51) #[] #[]] w fun e w' => e = .returned (.tuple #[]) ∧ w' = w := by
  have HB := hid_of bits_zero
  have HP := hid_of pdq_none
  go_enter Tryd.func61, Tryd.ntmps61
  go_wp2_with fail
  refine (HB.out _).mono ?_
  rintro e w1 ⟨l, rfl, rfl⟩
  go_wp2_with fail
  refine (HP.out l _).mono ?_
  rintro e w2 ⟨rfl, rfl⟩
  go_wp2
  go_end0
  exact ⟨rfl, rfl⟩

theorem sorted_none (Bn : Nat) (w : World) (hBn : Bn < w.heap.size) (hc : w.cell? ⟨Bn, 0, none⟩ = some (.map none)) :
    Calls Tryd.prog 49 #[.func (.func 62) #[] #[.pointer (some ⟨Bn, 0, none⟩)], .func (.func 51) #[] #[]] w fun e w' => e = .returned (.slice none 0 0) ∧ Kept (fun _ => False) w w' := by
  have HA := hid_of (collect_none Bn w hBn hc)
  have HS := hid_of sortf_none
  clear hc
  go_enter Tryd.func49, Tryd.ntmps49
  go_wp2_with fail
  refine HA.out.mono ?_
  rintro e w1 ⟨rfl, hk⟩
  have HK := hid_of hk
  clear hk
  go_wp2_with fail
  refine (HS.out _).mono ?_
  rintro e w2 ⟨rfl, rfl⟩
  go_wp2
  go_ret
  exact ⟨rfl, HK.out⟩

theorem keys_none (w : World) : Calls Tryd.prog 50 #[.map none] w fun e w' => e = .returned (.func (.func 62) #[] #[.pointer (some ⟨w.heap.size, 0, none⟩)]) ∧ w' = w.alloc (.cells #[.map none] 59) := by
  go_enter Tryd.func50, Tryd.ntmps50
  go_wp2
  go_ret
  exact ⟨rfl, rfl⟩

theorem mclone_none (w : World) : Calls Tryd.prog 52 #[.map none] w fun e w' => e = .returned (.map none) ∧ w' = w := by
  have q0 := eqMap
  go_enter Tryd.func52, Tryd.ntmps52
  go_wp2
  go_ret
  exact ⟨rfl, rfl⟩

set_option maxHeartbeats 1000000 in
theorem row_none {w : World} {s : Nat} {σ : Sg} (h : Stor w s (.map none) σ) : Calls Tryd.prog 42 #[.pointer (some ⟨s, 0, none⟩)] w fun e w' => ∃ a b, e = .returned (.func (.func 53) #[] #[.pointer (some a), .pointer (some b)]) ∧ Kept (fun _ => False) w w' := by
  have c2 : w.cell? ⟨s, 2, none⟩ = some (.map none) := h.cell 2
  have HC2 := hid_of c2
  have HKN := hid_of keys_none
  have HMC := hid_of mclone_none
  clear h
  go_enter Tryd.func42, Tryd.ntmps42
  go_wp2_with fail
  refine (HKN.out _).mono ?_
  rintro e w1 ⟨rfl, rfl⟩
  have HS := hid_of (sorted_none w.heap.size (w.alloc (.cells #[.map none] 59)) (by simp) ((cell_block _ _ _ _ _ _ (alloc_new _ _ rfl)).trans rfl))
  have HK1 : Hid (Kept (fun _ => False) w (w.alloc (.cells #[.map none] 59))) := (Kept.refl _ w).alloc _
  go_wp2_with fail
  refine HS.out.mono ?_
  rintro e w2 ⟨rfl, hk⟩
  have HK2 := hid_of (HK1.out.trans hk)
  have c3 := HK2.out.cell HC2.out (fun f => f)
  have c4 : (w2.alloc (.cells #[.slice none 0 0] 89)).cell? ⟨s, 2, none⟩ = some (.map none) := (HK2.out.alloc _).cell HC2.out (fun f => f)
  clear hk HS HK1 HKN c2 c3
  go_wp2_with fail
  refine (HMC.out _).mono ?_
  rintro e w3 ⟨rfl, rfl⟩
  go_wp2
  go_ret
  exact ⟨_, _, rfl, (HK2.out.alloc _).alloc _⟩

set_option maxHeartbeats 1000000 in
theorem all_none {w : World} {s : Nat} {σ : Sg} (h : Stor w s (.map none) σ) : Calls Tryd.prog 37 #[.pointer (some ⟨s, 0, none⟩)] w fun e w' => ∃ a, e = .returned (.func (.func 43) #[] #[.pointer (some a)]) ∧ Kept (fun _ => False) w w' := by
  have HR := hid_of (row_none h)
  clear h
  go_enter Tryd.func37, Tryd.ntmps37
  go_wp2_with fail
  refine HR.out.mono ?_
  rintro e w1 ⟨a, b, rfl, hk⟩
  have HK := hid_of hk
  clear hk HR
  go_wp2
  go_ret
  exact ⟨_, rfl, HK.out.alloc _⟩
end Go.Proofs.YtjdbmjkidljhpaaDoor

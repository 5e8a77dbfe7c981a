import Derived.Test.YtpfmhibdmehlcaaGreatDoorTBa2
namespace Go.Proofs.YtpfmhibdmehlcaaGreatDoor
open Go.RowKit
set_option linter.unusedVariables false
set_option linter.unusedSimpArgs false
set_option maxRecDepth 100000 in
set_option maxHeartbeats 1000000 in
theorem fold_any (n : Int) (w : World) (hn : -9223372036854775808 ≤ n) (h1 : n < 9223372036854775808) :
  Calls Tryz.prog 162 #[.int .i64 n] w fun e w' => e = .returned (.int .u64 (fold n)) ∧ w' = w := by
 unfold fold
 by_cases h0 : n < 0
 ·rw [if_pos h0]
  go_enter Tryz.func162, Tryz.ntmps162
  go_wp2
  go_ret
  exact ⟨congrArg (fun x => Ending.returned (Value.int .u64 x)) (fold_neg n hn h0), rfl⟩
 ·rw [if_neg h0]
  go_enter Tryz.func162, Tryz.ntmps162
  go_wp2
  go_ret
  exact ⟨congrArg (fun x => Ending.returned (Value.int .u64 x)) (Int.mul_comm n 2), rfl⟩
set_option maxRecDepth 100000 in
set_option maxHeartbeats 1000000 in
theorem int_s (a : Nat) (v : Value) (s : St) (n : Int) (w : World) (hw : WS w a v s) (hn : -9223372036854775808 ≤ n) (h1 : n < 9223372036854775808) :
  Calls Tryz.prog 137 #[.pointer (some ⟨a, 0, none⟩), .int .i64 n] w (PutS a v (s.put (Mth.form (fold n))) w) := by
 have hf := hid_of (fold_any n w hn h1)
 have hw' := hid_of (wform_s a v s (fold n) w hw (by unfold fold; split <;> omega) (by unfold fold; split <;> omega))
 clear hw
 generalize fold n = u at *
 go_enter Tryz.func137, Tryz.ntmps137
 go_wp2_with fail
 refine hf.out.mono ?_
 rintro e w1 ⟨rfl, rfl⟩
 go_wp2_with fail
 refine hw'.out.mono ?_
 intro e w2 hp
 have HP := hid_of hp
 obtain ⟨rfl, _⟩ := hp
 clear hf hw'
 go_wp2
 go_end0
 exact HP.out
end Go.Proofs.YtpfmhibdmehlcaaGreatDoor

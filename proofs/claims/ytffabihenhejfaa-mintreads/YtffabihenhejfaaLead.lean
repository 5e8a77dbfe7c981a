/-
  end, lead, Read: where the function returns.
-/
import Derived.Test.YtffabihenhejfaaRdc
namespace Go.Proofs.Ytffabihenhejfaa
open Go.RowKit
set_option linter.unusedVariables false

/-- The fault behind the end: bytes that are left are one. -/
def tailOf (n : Nat) (f : Int) : Int := if 0 < n then 13 else f

/-- What end makes of a Reader. -/
theorem end_close {w : World} {r : Nat} {v : Value} {live : Bool} {f f' : Int} (h : Rd w r v live f) :
    Rd ((w.setCell ⟨r, 1, none⟩ (.bool false)).setCell ⟨r, 0, none⟩ (.slice none 0 0)) r (.slice none 0 0) false f ∧ Kept (fun k => k = r) w ((w.setCell ⟨r, 1, none⟩ (.bool false)).setCell ⟨r, 0, none⟩ (.slice none 0 0)) ∧
    Rd (((w.setCell ⟨r, 2, none⟩ (.int .i64 f')).setCell ⟨r, 1, none⟩ (.bool false)).setCell ⟨r, 0, none⟩ (.slice none 0 0)) r (.slice none 0 0) false f' ∧ Kept (fun k => k = r) w (((w.setCell ⟨r, 2, none⟩ (.int .i64 f')).setCell ⟨r, 1, none⟩ (.bool false)).setCell ⟨r, 0, none⟩ (.slice none 0 0)) := by
  refine ⟨?_, (kept_set _ _ _ _).trans (kept_set _ _ _ _), ?_, ((kept_set _ _ _ _).trans (kept_set _ _ _ _)).trans (kept_set _ _ _ _)⟩
  · unfold Rd
    rw [set_block _ _ _ _ _ _ (set_block _ _ _ _ _ _ h _)]
    rfl
  · unfold Rd
    rw [set_block _ _ _ _ _ _ (set_block _ _ _ _ _ _ (set_block _ _ _ _ _ _ h _) _)]
    rfl

set_option maxRecDepth 100000 in
set_option maxHeartbeats 1000000 in
theorem end_any (r n c : Nat) (ao : Option Addr) (live : Bool) (f : Int) (w : World) (hr : Rd w r (.slice ao n c) live f) :
    Calls Try.prog 58 #[.pointer (some ⟨r, 0, none⟩)] w fun e w' => e = .returned (.tuple #[]) ∧ Rd w' r (.slice none 0 0) false (tailOf n f) ∧ Kept (fun k => k = r) w w' := by
  obtain ⟨q0, q1, q2, f0, f1, f2, hl⟩ := hr.cells
  obtain ⟨e1, e2, e3, e4⟩ := end_close (f' := 13) hr
  have E1 := hid_of e1
  have E2 := hid_of e2
  have E3 := hid_of e3
  have E4 := hid_of e4
  clear hr e1 e2 e3 e4
  unfold tailOf
  by_cases hn : 0 < n
  · rw [if_pos hn]
    have hnI : (0 : Int) < (n : Int) := by omega
    go_enter Try.func58, Try.ntmps58
    go_wp2
    go_end0
    exact ⟨rfl, E3.out, E4.out⟩
  · rw [if_neg hn]
    obtain rfl : n = 0 := by omega
    go_enter Try.func58, Try.ntmps58
    go_wp2
    go_end0
    exact ⟨rfl, E1.out, E2.out⟩

set_option maxRecDepth 100000 in
set_option maxHeartbeats 1000000 in
/-- The deferred function, where nothing was thrown. -/
theorem end_idle (p : Addr) (w : World) (r n c : Nat) (ao : Option Addr) (live : Bool) (f : Int) (hp : w.cell? p = some (.pointer (some ⟨r, 0, none⟩))) (hr : Rd w r (.slice ao n c) live f) :
    CallsD Try.prog 57 #[.pointer (some p)] .returning w fun e u' w' => e = .returned (.tuple #[]) ∧ u' = .returning ∧ Rd w' r (.slice none 0 0) false (tailOf n f) ∧ Kept (fun k => k = r) w w' := by
  have hend := hid_of (end_any r n c ao live f w hr)
  refine callsD_of_wpS Try.func57 rfl fun c₀ cs hu => ?_
  apply wpS_seq
  apply wpS_region
  simp [wpOpsS, go_sem, recoverD, hu, Try.ntmps57, Exit.thenS]
  refine wpS_of_wp ?_
  rw [show (#[Value.pointer (some p)] ++ ((Array.replicate 13 undef).setIfInBounds 1 Value.nilIface).setIfInBounds 0 Value.nilIface) = #[.pointer (some p), .nilIface, .nilIface, undef, undef, undef, undef, undef, undef, undef, undef, undef, undef, undef] from rfl]
  have HU := hid_of hu
  clear hr hu
  go_wp2_with fail
  refine hend.out.mono ?_
  rintro e w1 ⟨rfl, h1, h2⟩
  have H1 := hid_of h1
  have H2 := hid_of h2
  clear hend h1 h2
  go_wp2
  have hm := HU.out
  cases c₀
  simp_all [bodyPostS, results, Try.results57]
  exact ⟨H1.out, H2.out⟩

/-- What the function that is handed to Read leaves, where it returns: the Reader, with so much left; the variable that the deferred function looks at. -/
def Led (r p : Nat) (n : Nat) (f : Int) (w' : World) : Prop :=
  w'.cell? ⟨p, 0, none⟩ = some (.pointer (some ⟨r, 0, none⟩)) ∧ ∃ ao c live, Rd w' r (.slice ao n c) live f

set_option maxRecDepth 100000 in
set_option maxHeartbeats 1000000 in
theorem lead_ret (sv : Value) (r : Nat) (w : World) (n : Nat) (f : Int) (Q : World → Prop)
    (hf : Calls Try.prog 23 #[sv, .pointer (some ⟨r, 0, none⟩)] (w.alloc (.cells #[.pointer (some ⟨r, 0, none⟩)] 56)) fun e w' => e = .returned (.tuple #[]) ∧ Led r w.heap.size n f w' ∧ Q w') :
    Calls Try.prog 36 #[.pointer (some ⟨r, 0, none⟩), .func (.func 23) #[sv] #[]] w fun e w' => e = .returned (.tuple #[]) ∧ ∃ w1, Q w1 ∧ Rd w' r (.slice none 0 0) false (tailOf n f) ∧ Kept (fun k => k = r) w1 w' := by
  have hm := hmf
  have HF := hid_of hf
  clear hf
  go_enter_defers Try.func36, Try.ntmps36
  go_wp2_with fail
  refine HF.out.mono ?_
  rintro e w1 ⟨rfl, ⟨hp, ao, c, live, hr⟩, hq⟩
  have HE := hid_of (end_idle ⟨w.heap.size, 0, none⟩ w1 r n c ao live f hp hr)
  have HQ := hid_of hq
  clear HF hp hr hq
  go_wp2
  refine leaves_cons (f := 57) (args := #[.pointer (some ⟨w.heap.size, 0, none⟩)]) (by simp) (by simp [go_sem]) ?_
  refine HE.out.mono ?_
  rintro e u' w'' ⟨rfl, rfl, h1, h2⟩
  simp [Leaves, settle, results, Try.results36, go_sem]
  exact ⟨w1, HQ.out, h1, h2⟩

set_option maxRecDepth 100000 in
set_option maxHeartbeats 1000000 in
theorem read_ret (sv : Value) (bao : Option Addr) (bn bc : Nat) (w : World) (n : Nat) (f : Int) (Q : World → Prop)
    (hf : Calls Try.prog 23 #[sv, .pointer (some ⟨w.heap.size, 0, none⟩)] ((w.alloc (.cells #[.slice bao bn bc, .bool true, .int .i64 0] 82)).alloc (.cells #[.pointer (some ⟨w.heap.size, 0, none⟩)] 56)) fun e w' => e = .returned (.tuple #[]) ∧ Led w.heap.size (w.heap.size + 1) n f w' ∧ Q w') :
    Calls Try.prog 14 #[.slice bao bn bc, .func (.func 23) #[sv] #[]] w fun e w' => e = .returned (.int .i64 (tailOf n f)) ∧ ∃ w1, Q w1 ∧ Rd w' w.heap.size (.slice none 0 0) false (tailOf n f) ∧ Kept (fun k => k = w.heap.size) w1 w' := by
  have hl := lead_ret sv w.heap.size (w.alloc (.cells #[.slice bao bn bc, .bool true, .int .i64 0] 82)) n f Q (by simpa using hf)
  have HL := hid_of hl
  clear hf hl
  go_enter Try.func14, Try.ntmps14
  go_wp2_with fail
  refine HL.out.mono ?_
  rintro e w1 ⟨rfl, w0, hq, hr, hk⟩
  obtain ⟨_, _, q2, _, _, _, _⟩ := hr.cells
  have HE : Hid (∃ w0, Q w0 ∧ Rd w1 w.heap.size (.slice none 0 0) false (tailOf n f) ∧ Kept (fun k => k = w.heap.size) w0 w1) := ⟨w0, hq, hr, hk⟩
  clear HL hq hr hk
  go_wp2
  go_ret
  exact ⟨rfl, HE.out⟩
end Go.Proofs.Ytffabihenhejfaa

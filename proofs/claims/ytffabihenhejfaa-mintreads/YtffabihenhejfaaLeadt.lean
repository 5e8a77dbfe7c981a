/-
  lead, Read: where the function throws.
-/
import Derived.Test.YtffabihenhejfaaRcalls
import Derived.LaidEqlPtr
namespace Go.Proofs.Ytffabihenhejfaa
open Go.RowKit
set_option linter.unusedVariables false

theorem assert_thrown (v : Value) (w : World) : (Instr.typeAssert (.iface 107 v) 20 107 true).run Try.prog w = .ok (.tuple #[v, .bool true]) w := by kernel_rfl

theorem Try.info82 : (Try.prog.info? 82).map (·.size) = some 3 := by kernel_rfl

theorem same_ptr (a : Addr) (w : World) : (binOp .eql 56 (.pointer (some a)) (.pointer (some a))).run Try.prog w = .ok (.bool true) w := by
  have h := Try.info82
  cases hj : Try.prog.info? 82 with
  | none => rw [hj] at h; cases h
  | some j => exact run_eql_ptr_same w a Try.underlying56 hj

set_option maxRecDepth 100000 in
set_option maxHeartbeats 1000000 in
theorem threw_yes (r : Nat) (w : World) : Calls Try.prog 59 #[.pointer (some ⟨r, 0, none⟩), .iface 107 (.agg #[.pointer (some ⟨r, 0, none⟩)])] w fun e w' => e = .returned (.bool true) ∧ Kept (fun _ => False) w w' := by
  have ha := assert_thrown
  have hp := same_ptr
  go_enter Try.func59, Try.ntmps59
  go_wp2
  go_ret
  refine ⟨by simp, ?_⟩
  exact (Kept.refl _ _).alloc _

set_option maxRecDepth 100000 in
set_option maxHeartbeats 1000000 in
/-- The deferred function, where its own Reader's fault was thrown. -/
theorem end_caught (p : Addr) (w : World) (r : Nat) (flt : Int) (hp : w.cell? p = some (.pointer (some ⟨r, 0, none⟩))) (hpr : p.block ≠ r) (hr : Rd w r (.slice none 0 0) false flt) :
    CallsD Try.prog 57 #[.pointer (some p)] (.panicking [{ v := thrownV r, recovered := false }]) w fun e u' w' => e = .returned (.tuple #[]) ∧ u' = .panicking [{ v := thrownV r, recovered := true }] ∧ Rd w' r (.slice none 0 0) false flt ∧ Kept (fun k => k = r) w w' := by
  have hend := hid_of (end_any r 0 0 none false flt w hr)
  unfold thrownV
  refine callsD_of_wpS Try.func57 rfl fun c₀ cs hu => ?_
  apply wpS_seq
  apply wpS_region
  simp [wpOpsS, go_sem, recoverD, hu, Try.ntmps57, Exit.thenS]
  refine wpS_of_wp ?_
  rw [show (#[Value.pointer (some p)] ++ ((Array.replicate 13 undef).setIfInBounds 1 (Value.iface 107 (.agg #[.pointer (some ⟨r, 0, none⟩)]))).setIfInBounds 0 (Value.iface 107 (.agg #[.pointer (some ⟨r, 0, none⟩)]))) = #[.pointer (some p), .iface 107 (.agg #[.pointer (some ⟨r, 0, none⟩)]), .iface 107 (.agg #[.pointer (some ⟨r, 0, none⟩)]), undef, undef, undef, undef, undef, undef, undef, undef, undef, undef, undef] from rfl]
  have HU := hid_of hu
  clear hr hu
  go_wp2_with fail
  refine hend.out.mono ?_
  rintro e w1 ⟨rfl, h1, h2⟩
  have hp1 := h2.cell hp hpr
  have HT := hid_of (threw_yes r w1)
  have H1 := hid_of h1
  have H2 := hid_of h2
  clear hend h1 h2 hp
  go_wp2_with fail
  refine HT.out.mono ?_
  rintro e w2 ⟨rfl, h3⟩
  have H3 := hid_of (H1.out.kept h3 (fun f => f))
  have H4 : Hid (Kept (fun k => k = r) w w2) := H2.out.trans (h3.mono (fun _ _ f => f.elim))
  clear h3 HT
  go_wp2
  have hm := HU.out
  cases c₀
  simp_all [bodyPostS, results, Try.results57]
  exact ⟨H3.out, H4.out⟩

/-- What the function that is handed to Read leaves: it returns, or throws its Reader's fault. -/
def LedAny (r p : Nat) (Q : Nat → World → Prop) (Q2 : World → Prop) (e : Ending) (w' : World) : Prop :=
  (e = .returned (.tuple #[]) ∧ ∃ n, Led r p n 0 w' ∧ Q n w') ∨
  ∃ flt : Int, flt ≠ 0 ∧ e = .panicked [{ v := thrownV r, recovered := false }] ∧ Rd w' r (.slice none 0 0) false flt ∧ w'.cell? ⟨p, 0, none⟩ = some (.pointer (some ⟨r, 0, none⟩)) ∧ Q2 w'

set_option maxRecDepth 100000 in
set_option maxHeartbeats 1000000 in
theorem lead_any (sv : Value) (r : Nat) (w : World) (Q : Nat → World → Prop) (Q2 : World → Prop) (hrl : r < w.heap.size)
    (hf : Calls Try.prog 23 #[sv, .pointer (some ⟨r, 0, none⟩)] (w.alloc (.cells #[.pointer (some ⟨r, 0, none⟩)] 56)) (LedAny r w.heap.size Q Q2)) :
    Calls Try.prog 36 #[.pointer (some ⟨r, 0, none⟩), .func (.func 23) #[sv] #[]] w fun e w' => e = .returned (.tuple #[]) ∧
      ((∃ (n : Nat) (w1 : World), Q n w1 ∧ Rd w' r (.slice none 0 0) false (tailOf n 0) ∧ Kept (fun k => k = r) w1 w') ∨ ∃ (w1 : World) (flt : Int), flt ≠ 0 ∧ Q2 w1 ∧ Rd w' r (.slice none 0 0) false flt ∧ Kept (fun k => k = r) w1 w') := by
  have hm := hmf
  have HF := hid_of hf
  clear hf
  go_enter_defers Try.func36, Try.ntmps36
  go_wp2_with fail
  refine HF.out.mono ?_
  rintro e w1 (⟨rfl, n, ⟨hp, ao, c, live, hr⟩, hq⟩ | ⟨flt, h0, rfl, hr, hp, hq⟩)
  · have HE := hid_of (end_idle ⟨w.heap.size, 0, none⟩ w1 r n c ao live 0 hp hr)
    have HQ := hid_of hq
    clear HF hp hr hq
    go_wp2
    refine leaves_cons (f := 57) (args := #[.pointer (some ⟨w.heap.size, 0, none⟩)]) (by simp) (by simp [go_sem]) ?_
    refine HE.out.mono ?_
    rintro e u' w'' ⟨rfl, rfl, h1, h2⟩
    simp [Leaves, settle, results, Try.results36, go_sem]
    exact .inl ⟨n, w1, HQ.out, h1, h2⟩
  · have HE := hid_of (end_caught ⟨w.heap.size, 0, none⟩ w1 r flt hp (by show w.heap.size ≠ r; omega) hr)
    have HQ := hid_of hq
    clear HF hp hr hq
    refine leaves_cons (f := 57) (args := #[.pointer (some ⟨w.heap.size, 0, none⟩)]) (by simp) (by simp [go_sem]) ?_
    refine HE.out.mono ?_
    rintro e u' w'' ⟨rfl, rfl, h1, h2⟩
    simp [Leaves, settle, results, Try.results36, go_sem]
    exact .inr ⟨w1, flt, h0, HQ.out, h1, h2⟩

set_option maxRecDepth 100000 in
set_option maxHeartbeats 1000000 in
theorem read_any (sv : Value) (bao : Option Addr) (bn bc : Nat) (w : World) (Q : Nat → World → Prop) (Q2 : World → Prop)
    (hf : Calls Try.prog 23 #[sv, .pointer (some ⟨w.heap.size, 0, none⟩)] ((w.alloc (.cells #[.slice bao bn bc, .bool true, .int .i64 0] 82)).alloc (.cells #[.pointer (some ⟨w.heap.size, 0, none⟩)] 56)) (LedAny w.heap.size (w.heap.size + 1) Q Q2)) :
    Calls Try.prog 14 #[.slice bao bn bc, .func (.func 23) #[sv] #[]] w fun e w' =>
      (∃ (n : Nat) (w1 : World), e = .returned (.int .i64 (tailOf n 0)) ∧ Q n w1 ∧ Kept (fun k => k = w.heap.size) w1 w') ∨ ∃ (w1 : World) (flt : Int), flt ≠ 0 ∧ e = .returned (.int .i64 flt) ∧ Q2 w1 ∧ Kept (fun k => k = w.heap.size) w1 w' := by
  have hl := lead_any sv w.heap.size (w.alloc (.cells #[.slice bao bn bc, .bool true, .int .i64 0] 82)) Q Q2 (by simp) (by simpa using hf)
  have HL := hid_of hl
  clear hf hl
  go_enter Try.func14, Try.ntmps14
  go_wp2_with fail
  refine HL.out.mono ?_
  rintro e w1 ⟨rfl, ⟨n, w0, hq, hr, hk⟩ | ⟨w0, flt, h0, hq, hr, hk⟩⟩
  · obtain ⟨_, _, q2, _, _, _, _⟩ := hr.cells
    have HQ := hid_of hq
    have HK := hid_of hk
    clear HL hq hr hk
    go_wp2
    go_ret
    exact .inl ⟨n, w0, rfl, HQ.out, HK.out⟩
  · obtain ⟨_, _, q2, _, _, _, _⟩ := hr.cells
    have HQ := hid_of hq
    have HK := hid_of hk
    clear HL hq hr hk
    go_wp2
    go_ret
    exact .inr ⟨w0, flt, h0, rfl, HQ.out, HK.out⟩
end Go.Proofs.Ytffabihenhejfaa

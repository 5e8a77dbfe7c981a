/-
  mint.Read with a function literal of one captured variable.
-/
import Derived.Test.YtnjhnlohjhdcpabMc
namespace Go.Proofs.Ytnjhnlohjhdcpab
open Go.RowKit
set_option linter.unusedVariables false

set_option maxRecDepth 100000 in
set_option maxHeartbeats 1000000 in
theorem lead_c (sv : Value) (r : Nat) (w : World) (Q1 : Nat → World → Prop) (Q2 : Int → World → Prop) (Q3 : Nat → World → Prop) (hrl : r < w.heap.size)
    (hf : Calls Try.prog 62 #[.pointer (some ⟨r, 0, none⟩), sv] (w.alloc (.cells #[.pointer (some ⟨r, 0, none⟩)] 60)) (LedX r w.heap.size Q1 Q2 Q3)) :
    Calls Try.prog 40 #[.pointer (some ⟨r, 0, none⟩), .func (.func 62) #[] #[sv]] w fun e w' =>
      (e = .returned (.tuple #[]) ∧ ((∃ (n : Nat) (w1 : World), Q1 n w1 ∧ Rd w' r (.slice none 0 0) false (tailOf n 0) ∧ Kept (fun k => k = r) w1 w') ∨ ∃ (flt : Int) (w1 : World), Q2 flt w1 ∧ Rd w' r (.slice none 0 0) false flt ∧ Kept (fun k => k = r) w1 w')) ∨
      ∃ (q : Nat) (older : List PanicEntry) (w1 : World), q ≠ r ∧ Plain1 older ∧ e = .panicked ({ v := thrownV q, recovered := false } :: older) ∧ Q3 q w1 ∧ Dead w' r ∧ Kept (fun k => k = r) w1 w' := by
  have hm := hmf
  have HF := hid_of hf
  clear hf
  go_enter_defers Try.func40, Try.ntmps40
  go_wp2_with fail
  refine HF.out.mono ?_
  rintro e w1 (⟨rfl, n, ⟨hp, ao, c, live, hr⟩, hq⟩ | ⟨flt, older, hpl, rfl, hr, hp, hq⟩ | ⟨q, older, hne, hpl, rfl, ⟨u, l2, f2, hq2⟩, ⟨ao, n, c, live, f, hr⟩, hp, hq⟩)
  · have HE := hid_of (end_idle ⟨w.heap.size, 0, none⟩ w1 r n c ao live 0 hp hr)
    have HQ := hid_of hq
    clear HF hp hr hq
    go_wp2
    refine leaves_cons (f := 52) (args := #[.pointer (some ⟨w.heap.size, 0, none⟩)]) (by simp) (by simp [go_sem]) ?_
    refine HE.out.mono ?_
    rintro e u' w'' ⟨rfl, rfl, h1, h2⟩
    simp [Leaves, settle, results, Try.results40, go_sem]
    exact .inl ⟨n, w1, HQ.out, h1, h2⟩
  · have HE := hid_of (caught_x ⟨w.heap.size, 0, none⟩ w1 r flt older hp (by show w.heap.size ≠ r; omega) hr)
    have HQ := hid_of hq
    clear HF hp hr hq
    refine leaves_cons (f := 52) (args := #[.pointer (some ⟨w.heap.size, 0, none⟩)]) (by simp) (by simp [go_sem]) ?_
    refine HE.out.mono ?_
    rintro e u' w'' ⟨rfl, rfl, h1, h2⟩
    have hs := hpl.settle (thrownV r)
    simp [Leaves, hs, results, Try.results40, go_sem]
    exact .inr ⟨flt, w1, HQ.out, h1, h2⟩
  · have HE := hid_of (passed_x ⟨w.heap.size, 0, none⟩ w1 r q n c ao live f u l2 f2 older hp (by show w.heap.size ≠ r; omega) hne hr hq2)
    have HQ := hid_of hq
    clear HF hp hr hq hq2
    refine leaves_cons (f := 52) (args := #[.pointer (some ⟨w.heap.size, 0, none⟩)]) (by simp) (by simp [go_sem]) ?_
    refine HE.out.mono ?_
    rintro e u' w'' ⟨rfl, rfl, h1, h2⟩
    refine .inr ⟨q, { v := thrownV q, recovered := true } :: older, w1, hne, ?_, rfl, HQ.out, ⟨_, h1⟩, h2⟩
    intro z hz
    rcases List.mem_cons.1 hz with rfl | h
    · rfl
    · exact hpl z h

set_option maxRecDepth 100000 in
set_option maxHeartbeats 1000000 in
theorem read_c (sv : Value) (bao : Option Addr) (bn bc : Nat) (w : World) (Q1 : Nat → World → Prop) (Q2 : Int → World → Prop) (Q3 : Nat → World → Prop)
    (hf : Calls Try.prog 62 #[.pointer (some ⟨w.heap.size, 0, none⟩), sv] ((w.alloc (.cells #[.slice bao bn bc, .bool true, .int .i64 0] 74)).alloc (.cells #[.pointer (some ⟨w.heap.size, 0, none⟩)] 60)) (LedX w.heap.size (w.heap.size + 1) Q1 Q2 Q3)) :
    Calls Try.prog 27 #[.slice bao bn bc, .func (.func 62) #[] #[sv]] w fun e w' =>
      (∃ (n : Nat) (w1 : World), e = .returned (.int .i64 (tailOf n 0)) ∧ Q1 n w1 ∧ Rd w' w.heap.size (.slice none 0 0) false (tailOf n 0) ∧ Kept (fun k => k = w.heap.size) w1 w') ∨
      (∃ (flt : Int) (w1 : World), e = .returned (.int .i64 flt) ∧ Q2 flt w1 ∧ Rd w' w.heap.size (.slice none 0 0) false flt ∧ Kept (fun k => k = w.heap.size) w1 w') ∨
      ∃ (q : Nat) (older : List PanicEntry) (w1 : World), q ≠ w.heap.size ∧ Plain1 older ∧ e = .panicked ({ v := thrownV q, recovered := false } :: older) ∧ Q3 q w1 ∧ Dead w' w.heap.size ∧ Kept (fun k => k = w.heap.size) w1 w' := by
  have hl := lead_c sv w.heap.size (w.alloc (.cells #[.slice bao bn bc, .bool true, .int .i64 0] 74)) Q1 Q2 Q3 (by simp) (by simpa using hf)
  have HL := hid_of hl
  clear hf hl
  go_enter Try.func27, Try.ntmps27
  go_wp2_with fail
  refine HL.out.mono ?_
  rintro e w1 (⟨rfl, ⟨n, w0, hq, hr, hk⟩ | ⟨flt, w0, hq, hr, hk⟩⟩ | ⟨q, older, w0, hne, hpl, rfl, hq, hd, hk⟩)
  · obtain ⟨_, _, q2, _, _, _, _⟩ := hr.cells
    have HQ : Hid (∃ (n : Nat) (w2 : World), tailOf n 0 = tailOf n 0 ∧ Q1 n w2) := ⟨n, w0, rfl, hq⟩
    have HQ1 := hid_of hq
    have HR := hid_of hr
    have HK := hid_of hk
    clear HL hq hr hk HQ
    go_wp2
    go_ret
    exact .inl ⟨n, w0, rfl, HQ1.out, HR.out, HK.out⟩
  · obtain ⟨_, _, q2, _, _, _, _⟩ := hr.cells
    have HQ1 := hid_of hq
    have HR := hid_of hr
    have HK := hid_of hk
    clear HL hq hr hk
    go_wp2
    go_ret
    exact .inr (.inl ⟨flt, w0, rfl, HQ1.out, HR.out, HK.out⟩)
  · exact ⟨rfl, .inr (.inr ⟨q, older, w0, hne, hpl, rfl, hq, hd, hk⟩)⟩
end Go.Proofs.Ytnjhnlohjhdcpab

/-
  lead, Read of a function that may throw its own Reader's fault, or another one's.
-/
import Derived.Test.YtffabihenhejfaaDead
namespace Go.Proofs.Ytffabihenhejfaa
open Go.RowKit
set_option linter.unusedVariables false

/-- What is under way behind a panic: nothing that ends a goroutine. -/
def Plain1 (older : List PanicEntry) : Prop := ∀ q ∈ older, q.goexit = false

theorem Plain1.settle {older : List PanicEntry} (h : Plain1 older) (v : Value) : settle (.panicking ({ v := v, recovered := true } :: older)) = .returning := by
  have : older.dropWhile (fun q => !q.goexit) = [] := by
    induction older with
    | nil => rfl
    | cons a l ih =>
      have ha : a.goexit = false := h a List.mem_cons_self
      rw [List.dropWhile_cons, if_pos (by rw [ha]; rfl)]
      exact ih (fun q hq => h q (List.mem_cons_of_mem _ hq))
  show (match older.dropWhile (fun q => !q.goexit) with | [] => FrameMode.returning | rest => .panicking rest) = _
  rw [this]

theorem other_ptr {a b : Nat} {ca cb : Array Value} {ta tb : TypeId} (hab : a ≠ b) (w : World) (ha : w.heap[a]? = some (.cells ca ta (0, 0))) (hb : w.heap[b]? = some (.cells cb tb (0, 0))) : (binOp .eql 56 (.pointer (some ⟨a, 0, none⟩)) (.pointer (some ⟨b, 0, none⟩))).run Try.prog w = .ok (.bool false) w := by
  have h := Try.info82
  cases hj : Try.prog.info? 82 with
  | none => rw [hj] at h; cases h
  | some j =>
    rw [hj] at h
    have hs : j.size = 3 := by simpa using h
    exact run_eql_ptr_other w Try.underlying56 hj (by rw [hs]; decide) (fun e => hab (by cases e; rfl)) ha hb

set_option maxRecDepth 100000 in
set_option maxHeartbeats 1000000 in
/-- The deferred function, where its own Reader's fault was thrown. -/
theorem caught_x (p : Addr) (w : World) (r : Nat) (flt : Int) (older : List PanicEntry) (hp : w.cell? p = some (.pointer (some ⟨r, 0, none⟩))) (hpr : p.block ≠ r) (hr : Rd w r (.slice none 0 0) false flt) :
    CallsD Try.prog 57 #[.pointer (some p)] (.panicking ({ v := thrownV r, recovered := false } :: older)) w fun e u' w' => e = .returned (.tuple #[]) ∧ u' = .panicking ({ v := thrownV r, recovered := true } :: older) ∧ Rd w' r (.slice none 0 0) false flt ∧ Kept (fun k => k = r) w w' := by
  have hend := hid_of (end_any r 0 0 none false flt w hr)
  unfold thrownV
  refine callsD_of_wpS Try.func57 rfl fun c₀ cs hu => ?_
  apply wpS_seq
  apply wpS_region
  simp [wpOpsS, go_sem, recoverD, hu, Try.ntmps57, Exit.thenS]
  refine wpS_of_wp ?_
  rw [show (#[Value.pointer (some p)] ++ ((Array.replicate 13 undef).setIfInBounds 1 (Value.iface 107 (.agg #[.pointer (some ⟨r, 0, none⟩)]))).setIfInBounds 0 (Value.iface 107 (.agg #[.pointer (some ⟨r, 0, none⟩)]))) = #[.pointer (some p), .iface 107 (.agg #[.pointer (some ⟨r, 0, none⟩)]), .iface 107 (.agg #[.pointer (some ⟨r, 0, none⟩)]), undef, undef, undef, undef, undef, undef, undef, undef, undef, undef, undef] from rfl]
  have HU := hid_of hu
  clear hr hu
  go_wp2_with fail
  refine hend.out.mono ?_
  rintro e w1 ⟨rfl, h1, h2⟩
  have hp1 := h2.cell hp hpr
  have HT := hid_of (threw_yes r w1)
  have H1 := hid_of h1
  have H2 := hid_of h2
  clear hend h1 h2 hp
  go_wp2_with fail
  refine HT.out.mono ?_
  rintro e w2 ⟨rfl, h3⟩
  have H3 := hid_of (H1.out.kept h3 (fun f => f))
  have H4 : Hid (Kept (fun k => k = r) w w2) := H2.out.trans (h3.mono (fun _ _ f => f.elim))
  clear h3 HT
  go_wp2
  have hm := HU.out
  cases c₀
  simp_all [bodyPostS, results, Try.results57]
  exact ⟨H3.out, H4.out⟩

set_option maxRecDepth 100000 in
set_option maxHeartbeats 1000000 in
theorem threw_no (r q : Nat) (v u : Value) (l l2 : Bool) (f f2 : Int) (w : World) (hrq : q ≠ r) (hr : Rd w r v l f) (hq : Rd w q u l2 f2) : Calls Try.prog 59 #[.pointer (some ⟨r, 0, none⟩), .iface 107 (.agg #[.pointer (some ⟨q, 0, none⟩)])] w fun e w' => e = .returned (.bool false) ∧ Kept (fun _ => False) w w' := by
  have ha := assert_thrown
  have hk : Kept (fun _ => False) w (w.alloc (.cells #[.pointer (some ⟨q, 0, none⟩)] 107)) := (Kept.refl _ _).alloc _
  have hp := other_ptr hrq (w.alloc (.cells #[.pointer (some ⟨q, 0, none⟩)] 107)) (hq.kept hk (fun f => f)) (hr.kept hk (fun f => f))
  clear hr hq hk
  go_enter Try.func59, Try.ntmps59
  go_wp2
  go_ret
  refine ⟨by simp, ?_⟩
  exact (Kept.refl _ _).alloc _

set_option maxRecDepth 100000 in
set_option maxHeartbeats 1000000 in
/-- The deferred function, where another Reader's fault was thrown: it goes by. -/
theorem passed_x (p : Addr) (w : World) (r q n c : Nat) (ao : Option Addr) (live : Bool) (f : Int) (u : Value) (l2 : Bool) (f2 : Int) (older : List PanicEntry) (hp : w.cell? p = some (.pointer (some ⟨r, 0, none⟩))) (hpr : p.block ≠ r) (hrq : q ≠ r) (hr : Rd w r (.slice ao n c) live f) (hq : Rd w q u l2 f2) :
    CallsD Try.prog 57 #[.pointer (some p)] (.panicking ({ v := thrownV q, recovered := false } :: older)) w fun e u' w' => e = .panicked [{ v := thrownV q, recovered := false }] ∧ u' = .panicking ({ v := thrownV q, recovered := true } :: older) ∧ Rd w' r (.slice none 0 0) false (tailOf n f) ∧ Kept (fun k => k = r) w w' := by
  have hend := hid_of (end_any r n c ao live f w hr)
  have HQ := hid_of hq
  unfold thrownV
  refine callsD_of_wpS Try.func57 rfl fun c₀ cs hu => ?_
  apply wpS_seq
  apply wpS_region
  simp [wpOpsS, go_sem, recoverD, hu, Try.ntmps57, Exit.thenS]
  refine wpS_of_wp ?_
  rw [show (#[Value.pointer (some p)] ++ ((Array.replicate 13 undef).setIfInBounds 1 (Value.iface 107 (.agg #[.pointer (some ⟨q, 0, none⟩)]))).setIfInBounds 0 (Value.iface 107 (.agg #[.pointer (some ⟨q, 0, none⟩)]))) = #[.pointer (some p), .iface 107 (.agg #[.pointer (some ⟨q, 0, none⟩)]), .iface 107 (.agg #[.pointer (some ⟨q, 0, none⟩)]), undef, undef, undef, undef, undef, undef, undef, undef, undef, undef, undef] from rfl]
  have HU := hid_of hu
  clear hr hu hq
  go_wp2_with fail
  refine hend.out.mono ?_
  rintro e w1 ⟨rfl, h1, h2⟩
  have hp1 := h2.cell hp hpr
  have HT := hid_of (threw_no r q _ _ _ _ _ _ w1 hrq h1 (HQ.out.kept h2 hrq))
  have H1 := hid_of h1
  have H2 := hid_of h2
  clear hend h1 h2 hp HQ
  go_wp2_with fail
  refine HT.out.mono ?_
  rintro e w2 ⟨rfl, h3⟩
  have H3 := hid_of (H1.out.kept h3 (fun f => f))
  have H4 : Hid (Kept (fun k => k = r) w w2) := H2.out.trans (h3.mono (fun _ _ f => f.elim))
  clear h3 HT
  go_wp2
  have hm := HU.out
  cases c₀
  simp_all [bodyPostS]
  exact ⟨H3.out, H4.out⟩

/-- What the function that is handed to Read leaves. -/
def LedX (r p : Nat) (Q1 : Nat → World → Prop) (Q2 : Int → World → Prop) (Q3 : Nat → World → Prop) (e : Ending) (w' : World) : Prop :=
  (e = .returned (.tuple #[]) ∧ ∃ n, Led r p n 0 w' ∧ Q1 n w') ∨
  (∃ (flt : Int) (older : List PanicEntry), Plain1 older ∧ e = .panicked ({ v := thrownV r, recovered := false } :: older) ∧ Rd w' r (.slice none 0 0) false flt ∧ w'.cell? ⟨p, 0, none⟩ = some (.pointer (some ⟨r, 0, none⟩)) ∧ Q2 flt w') ∨
  (∃ (q : Nat) (older : List PanicEntry), q ≠ r ∧ Plain1 older ∧ e = .panicked ({ v := thrownV q, recovered := false } :: older) ∧ (∃ u l f, Rd w' q u l f) ∧ (∃ ao n c live f, Rd w' r (.slice ao n c) live f) ∧ w'.cell? ⟨p, 0, none⟩ = some (.pointer (some ⟨r, 0, none⟩)) ∧ Q3 q w')

set_option maxRecDepth 100000 in
set_option maxHeartbeats 1000000 in
theorem lead_x (sv : Value) (r : Nat) (w : World) (Q1 : Nat → World → Prop) (Q2 : Int → World → Prop) (Q3 : Nat → World → Prop) (hrl : r < w.heap.size)
    (hf : Calls Try.prog 15 #[sv, .pointer (some ⟨r, 0, none⟩)] (w.alloc (.cells #[.pointer (some ⟨r, 0, none⟩)] 56)) (LedX r w.heap.size Q1 Q2 Q3)) :
    Calls Try.prog 36 #[.pointer (some ⟨r, 0, none⟩), .func (.func 15) #[sv] #[]] w fun e w' =>
      (e = .returned (.tuple #[]) ∧ ((∃ (n : Nat) (w1 : World), Q1 n w1 ∧ Rd w' r (.slice none 0 0) false (tailOf n 0) ∧ Kept (fun k => k = r) w1 w') ∨ ∃ (flt : Int) (w1 : World), Q2 flt w1 ∧ Rd w' r (.slice none 0 0) false flt ∧ Kept (fun k => k = r) w1 w')) ∨
      ∃ (q : Nat) (older : List PanicEntry) (w1 : World), q ≠ r ∧ Plain1 older ∧ e = .panicked ({ v := thrownV q, recovered := false } :: older) ∧ Q3 q w1 ∧ Dead w' r ∧ Kept (fun k => k = r) w1 w' := by
  have hm := hmf
  have HF := hid_of hf
  clear hf
  go_enter_defers Try.func36, Try.ntmps36
  go_wp2_with fail
  refine HF.out.mono ?_
  rintro e w1 (⟨rfl, n, ⟨hp, ao, c, live, hr⟩, hq⟩ | ⟨flt, older, hpl, rfl, hr, hp, hq⟩ | ⟨q, older, hne, hpl, rfl, ⟨u, l2, f2, hq2⟩, ⟨ao, n, c, live, f, hr⟩, hp, hq⟩)
  · have HE := hid_of (end_idle ⟨w.heap.size, 0, none⟩ w1 r n c ao live 0 hp hr)
    have HQ := hid_of hq
    clear HF hp hr hq
    go_wp2
    refine leaves_cons (f := 57) (args := #[.pointer (some ⟨w.heap.size, 0, none⟩)]) (by simp) (by simp [go_sem]) ?_
    refine HE.out.mono ?_
    rintro e u' w'' ⟨rfl, rfl, h1, h2⟩
    simp [Leaves, settle, results, Try.results36, go_sem]
    exact .inl ⟨n, w1, HQ.out, h1, h2⟩
  · have HE := hid_of (caught_x ⟨w.heap.size, 0, none⟩ w1 r flt older hp (by show w.heap.size ≠ r; omega) hr)
    have HQ := hid_of hq
    clear HF hp hr hq
    refine leaves_cons (f := 57) (args := #[.pointer (some ⟨w.heap.size, 0, none⟩)]) (by simp) (by simp [go_sem]) ?_
    refine HE.out.mono ?_
    rintro e u' w'' ⟨rfl, rfl, h1, h2⟩
    have hs := hpl.settle (thrownV r)
    simp [Leaves, hs, results, Try.results36, go_sem]
    exact .inr ⟨flt, w1, HQ.out, h1, h2⟩
  · have HE := hid_of (passed_x ⟨w.heap.size, 0, none⟩ w1 r q n c ao live f u l2 f2 older hp (by show w.heap.size ≠ r; omega) hne hr hq2)
    have HQ := hid_of hq
    clear HF hp hr hq hq2
    refine leaves_cons (f := 57) (args := #[.pointer (some ⟨w.heap.size, 0, none⟩)]) (by simp) (by simp [go_sem]) ?_
    refine HE.out.mono ?_
    rintro e u' w'' ⟨rfl, rfl, h1, h2⟩
    refine .inr ⟨q, { v := thrownV q, recovered := true } :: older, w1, hne, ?_, rfl, HQ.out, ⟨_, h1⟩, h2⟩
    intro z hz
    rcases List.mem_cons.1 hz with rfl | h
    · rfl
    · exact hpl z h

set_option maxRecDepth 100000 in
set_option maxHeartbeats 1000000 in
theorem read_x (sv : Value) (bao : Option Addr) (bn bc : Nat) (w : World) (Q1 : Nat → World → Prop) (Q2 : Int → World → Prop) (Q3 : Nat → World → Prop)
    (hf : Calls Try.prog 15 #[sv, .pointer (some ⟨w.heap.size, 0, none⟩)] ((w.alloc (.cells #[.slice bao bn bc, .bool true, .int .i64 0] 82)).alloc (.cells #[.pointer (some ⟨w.heap.size, 0, none⟩)] 56)) (LedX w.heap.size (w.heap.size + 1) Q1 Q2 Q3)) :
    Calls Try.prog 14 #[.slice bao bn bc, .func (.func 15) #[sv] #[]] w fun e w' =>
      (∃ (n : Nat) (w1 : World), e = .returned (.int .i64 (tailOf n 0)) ∧ Q1 n w1 ∧ Rd w' w.heap.size (.slice none 0 0) false (tailOf n 0) ∧ Kept (fun k => k = w.heap.size) w1 w') ∨
      (∃ (flt : Int) (w1 : World), e = .returned (.int .i64 flt) ∧ Q2 flt w1 ∧ Rd w' w.heap.size (.slice none 0 0) false flt ∧ Kept (fun k => k = w.heap.size) w1 w') ∨
      ∃ (q : Nat) (older : List PanicEntry) (w1 : World), q ≠ w.heap.size ∧ Plain1 older ∧ e = .panicked ({ v := thrownV q, recovered := false } :: older) ∧ Q3 q w1 ∧ Dead w' w.heap.size ∧ Kept (fun k => k = w.heap.size) w1 w' := by
  have hl := lead_x sv w.heap.size (w.alloc (.cells #[.slice bao bn bc, .bool true, .int .i64 0] 82)) Q1 Q2 Q3 (by simp) (by simpa using hf)
  have HL := hid_of hl
  clear hf hl
  go_enter Try.func14, Try.ntmps14
  go_wp2_with fail
  refine HL.out.mono ?_
  rintro e w1 (⟨rfl, ⟨n, w0, hq, hr, hk⟩ | ⟨flt, w0, hq, hr, hk⟩⟩ | ⟨q, older, w0, hne, hpl, rfl, hq, hd, hk⟩)
  · obtain ⟨_, _, q2, _, _, _, _⟩ := hr.cells
    have HQ : Hid (∃ (n : Nat) (w2 : World), tailOf n 0 = tailOf n 0 ∧ Q1 n w2) := ⟨n, w0, rfl, hq⟩
    have HQ1 := hid_of hq
    have HR := hid_of hr
    have HK := hid_of hk
    clear HL hq hr hk HQ
    go_wp2
    go_ret
    exact .inl ⟨n, w0, rfl, HQ1.out, HR.out, HK.out⟩
  · obtain ⟨_, _, q2, _, _, _, _⟩ := hr.cells
    have HQ1 := hid_of hq
    have HR := hid_of hr
    have HK := hid_of hk
    clear HL hq hr hk
    go_wp2
    go_ret
    exact .inr (.inl ⟨flt, w0, rfl, HQ1.out, HR.out, HK.out⟩)
  · exact ⟨rfl, .inr (.inr ⟨q, older, w0, hne, hpl, rfl, hq, hd, hk⟩)⟩
end Go.Proofs.Ytffabihenhejfaa

/-
  prog.Decode by contract.
-/
import Derived.Test.YtnjhnlohjhdcpabSef
import Derived.Test.YtnjhnlohjhdcpabSa
import Derived.Test.YtnjhnlohjhdcpabNcl
import Derived.Laws.ResultCell
namespace Go.Proofs.Ytnjhnlohjhdcpab
open Go.ChangeShapes Go.WideShapes Go.ChangeAt Go.RowKit Go.Deep
set_option linter.unusedVariables false
set_option linter.unusedSimpArgs false

set_option maxRecDepth 100000 in
set_option maxHeartbeats 1000000 in
theorem lead_q (sv : Value) (r : Nat) (w : World) (Q1 : Nat → World → Prop) (Q2 : Int → World → Prop) (Q3 : Nat → World → Prop) (hrl : r < w.heap.size)
    (hf : Calls Try.prog 28 #[.pointer (some ⟨r, 0, none⟩), sv] (w.alloc (.cells #[.pointer (some ⟨r, 0, none⟩)] 60)) (LedX r w.heap.size Q1 Q2 Q3)) :
    Calls Try.prog 40 #[.pointer (some ⟨r, 0, none⟩), .func (.func 28) #[] #[sv]] w fun e w' =>
      (e = .returned (.tuple #[]) ∧ ((∃ (n : Nat) (w1 : World), Q1 n w1 ∧ Rd w' r (.slice none 0 0) false (tailOf n 0) ∧ Kept (fun k => k = r) w1 w') ∨ ∃ (flt : Int) (w1 : World), Q2 flt w1 ∧ Rd w' r (.slice none 0 0) false flt ∧ Kept (fun k => k = r) w1 w')) ∨
      ∃ (q : Nat) (older : List PanicEntry) (w1 : World), q ≠ r ∧ Plain1 older ∧ e = .panicked ({ v := thrownV q, recovered := false } :: older) ∧ Q3 q w1 ∧ Dead w' r ∧ Kept (fun k => k = r) w1 w' := by
  have hm := hmf
  have HF := hid_of hf
  clear hf
  go_enter_defers Try.func40, Try.ntmps40
  go_wp2_with fail
  refine HF.out.mono ?_
  rintro e w1 (⟨rfl, n, ⟨hp, ao, c, live, hr⟩, hq⟩ | ⟨flt, older, hpl, rfl, hr, hp, hq⟩ | ⟨q, older, hne, hpl, rfl, ⟨u, l2, f2, hq2⟩, ⟨ao, n, c, live, f, hr⟩, hp, hq⟩)
  · have HE := hid_of (end_idle ⟨w.heap.size, 0, none⟩ w1 r n c ao live 0 hp hr)
    have HQ := hid_of hq
    clear HF hp hr hq
    go_wp2
    refine leaves_cons (f := 52) (args := #[.pointer (some ⟨w.heap.size, 0, none⟩)]) (by simp) (by simp [go_sem]) ?_
    refine HE.out.mono ?_
    rintro e u' w'' ⟨rfl, rfl, h1, h2⟩
    simp [Leaves, settle, results, Try.results40, go_sem]
    exact .inl ⟨n, w1, HQ.out, h1, h2⟩
  · have HE := hid_of (caught_x ⟨w.heap.size, 0, none⟩ w1 r flt older hp (by show w.heap.size ≠ r; omega) hr)
    have HQ := hid_of hq
    clear HF hp hr hq
    refine leaves_cons (f := 52) (args := #[.pointer (some ⟨w.heap.size, 0, none⟩)]) (by simp) (by simp [go_sem]) ?_
    refine HE.out.mono ?_
    rintro e u' w'' ⟨rfl, rfl, h1, h2⟩
    have hs := hpl.settle (thrownV r)
    simp [Leaves, hs, results, Try.results40, go_sem]
    exact .inr ⟨flt, w1, HQ.out, h1, h2⟩
  · have HE := hid_of (passed_x ⟨w.heap.size, 0, none⟩ w1 r q n c ao live f u l2 f2 older hp (by show w.heap.size ≠ r; omega) hne hr hq2)
    have HQ := hid_of hq
    clear HF hp hr hq hq2
    refine leaves_cons (f := 52) (args := #[.pointer (some ⟨w.heap.size, 0, none⟩)]) (by simp) (by simp [go_sem]) ?_
    refine HE.out.mono ?_
    rintro e u' w'' ⟨rfl, rfl, h1, h2⟩
    refine .inr ⟨q, { v := thrownV q, recovered := true } :: older, w1, hne, ?_, rfl, HQ.out, ⟨_, h1⟩, h2⟩
    intro z hz
    rcases List.mem_cons.1 hz with rfl | h
    · rfl
    · exact hpl z h

set_option maxRecDepth 100000 in
set_option maxHeartbeats 1000000 in
theorem read_q (sv : Value) (bao : Option Addr) (bn bc : Nat) (w : World) (Q1 : Nat → World → Prop) (Q2 : Int → World → Prop) (Q3 : Nat → World → Prop)
    (hf : Calls Try.prog 28 #[.pointer (some ⟨w.heap.size, 0, none⟩), sv] ((w.alloc (.cells #[.slice bao bn bc, .bool true, .int .i64 0] 74)).alloc (.cells #[.pointer (some ⟨w.heap.size, 0, none⟩)] 60)) (LedX w.heap.size (w.heap.size + 1) Q1 Q2 Q3)) :
    Calls Try.prog 27 #[.slice bao bn bc, .func (.func 28) #[] #[sv]] w fun e w' =>
      (∃ (n : Nat) (w1 : World), e = .returned (.int .i64 (tailOf n 0)) ∧ Q1 n w1 ∧ Rd w' w.heap.size (.slice none 0 0) false (tailOf n 0) ∧ Kept (fun k => k = w.heap.size) w1 w') ∨
      (∃ (flt : Int) (w1 : World), e = .returned (.int .i64 flt) ∧ Q2 flt w1 ∧ Rd w' w.heap.size (.slice none 0 0) false flt ∧ Kept (fun k => k = w.heap.size) w1 w') ∨
      ∃ (q : Nat) (older : List PanicEntry) (w1 : World), q ≠ w.heap.size ∧ Plain1 older ∧ e = .panicked ({ v := thrownV q, recovered := false } :: older) ∧ Q3 q w1 ∧ Dead w' w.heap.size ∧ Kept (fun k => k = w.heap.size) w1 w' := by
  have hl := lead_q sv w.heap.size (w.alloc (.cells #[.slice bao bn bc, .bool true, .int .i64 0] 74)) Q1 Q2 Q3 (by simp) (by simpa using hf)
  have HL := hid_of hl
  clear hf hl
  go_enter Try.func27, Try.ntmps27
  go_wp2_with fail
  refine HL.out.mono ?_
  rintro e w1 (⟨rfl, ⟨n, w0, hq, hr, hk⟩ | ⟨flt, w0, hq, hr, hk⟩⟩ | ⟨q, older, w0, hne, hpl, rfl, hq, hd, hk⟩)
  · obtain ⟨_, _, q2, _, _, _, _⟩ := hr.cells
    have HQ : Hid (∃ (n : Nat) (w2 : World), tailOf n 0 = tailOf n 0 ∧ Q1 n w2) := ⟨n, w0, rfl, hq⟩
    have HQ1 := hid_of hq
    have HR := hid_of hr
    have HK := hid_of hk
    clear HL hq hr hk HQ
    go_wp2
    go_ret
    exact .inl ⟨n, w0, rfl, HQ1.out, HR.out, HK.out⟩
  · obtain ⟨_, _, q2, _, _, _, _⟩ := hr.cells
    have HQ1 := hid_of hq
    have HR := hid_of hr
    have HK := hid_of hk
    clear HL hq hr hk
    go_wp2
    go_ret
    exact .inr (.inl ⟨flt, w0, rfl, HQ1.out, HR.out, HK.out⟩)
  · exact ⟨rfl, .inr (.inr ⟨q, older, w0, hne, hpl, rfl, hq, hd, hk⟩)⟩

set_option maxRecDepth 100000
/-- What the function literal of Decode leaves. -/
def DcPOk (xs : List Int) (w0 : World) (gp r : Nat) (n : Nat) (w' : World) : Prop :=
  ∃ (p : PG) (dv fv : Value) (cvs : List Value) (rest : List Int), progD xs = .ok (p, rest) ∧ n = rest.length ∧ w'.heap[gp]? = some (.cells #[.int .i64 p.mem, dv, fv] 25 (0, 0)) ∧ OwnP w0.heap.size w' dv fv cvs p ∧ p.Ok ∧ Kept (fun q => q = r ∨ q = gp) w0 w'
def DcPBad (xs : List Int) (w0 : World) (r : Nat) (flt : Int) (w' : World) : Prop := progD xs = .error flt ∧ Kept (fun q => q = r) w0 w'

set_option maxHeartbeats 4000000 in
theorem decode1_p (r g gp p : Nat) (v : Value) (xs : List Int) (w : World) (hr : Rd w r v true 0) (hx : IsR w g v xs) (hgr : g ≠ r) (hgl : g < w.heap.size) (hb : BytesOk xs) (hgp : w.heap[gp]? = some (.cells #[.int .i64 0, .slice none 0 0, .slice none 0 0] 25 (0, 0))) (hlr : gp ≠ r) (hp : w.cell? ⟨p, 0, none⟩ = some (.pointer (some ⟨r, 0, none⟩))) (hpr : p ≠ r) (hpl : p ≠ gp) :
    Calls Try.prog 28 #[.pointer (some ⟨r, 0, none⟩), .pointer (some ⟨gp, 0, none⟩)] w (LedX r p (DcPOk xs w gp r) (DcPBad xs w r) (fun _ _ => False)) := by
  have hE := program_x r g v xs w 0 hr hx hgr hgl hb
  unfold ProgP at hE
  cases hd : progD xs with
  | error flt =>
    rw [hd] at hE
    have HE := hid_of hE
    have HD := hid_of hd
    clear hE hd hr hx
    go_enter Try.func28, Try.ntmps28
    go_wp2_with fail
    refine HE.out.mono ?_
    rintro e w2 ⟨rfl, h2, h3⟩
    refine ⟨rfl, .inr (.inl ⟨flt, [], ?_, rfl, h2, h3.cell hp (by omega), HD.out, h3⟩)⟩
    intro z hz
    cases hz
  | ok q =>
    obtain ⟨P, rest⟩ := q
    rw [hd] at hE
    have HE := hid_of hE
    have HD := hid_of hd
    clear hE hd hr hx
    go_enter Try.func28, Try.ntmps28
    go_wp2_with fail
    refine HE.out.mono ?_
    rintro e w2 ⟨⟨dv, fv, cvs, rfl, ho, hok⟩, v2, a1, a2, a3⟩
    have hl2 := (a3.block gp (Array.getElem?_eq_some_iff.1 hgp).1 hlr).trans hgp
    obtain ⟨dao, dc, hds⟩ := ownsRow_shape ho.dat
    obtain ⟨fao, fc, hfs⟩ := ownsRow_shape ho.fns.row
    obtain ⟨nd, hnd⟩ : ∃ n, n = P.data.length := ⟨_, rfl⟩
    obtain ⟨nf, hnf⟩ : ∃ n, n = P.fns.length := ⟨_, rfl⟩
    obtain ⟨mem, hmem⟩ : ∃ n, n = P.mem := ⟨_, rfl⟩
    rw [← hnd] at hds
    rw [← hnf] at hfs
    rw [← hmem]
    subst hds
    subst hfs
    have hkr := kept_row w2 gp #[.int .i64 mem, .slice dao nd dc, .slice fao nf fc]
    obtain ⟨ao2, c2, hs2⟩ := a2.shape
    have HQ : Hid (LedX r p (DcPOk xs w gp r) (DcPBad xs w r) (fun _ _ => False) (.returned (.tuple #[])) (w2.setRow gp #[.int .i64 mem, .slice dao nd dc, .slice fao nf fc])) := by
      refine .inl ⟨rfl, rest.length, ⟨hkr.cell (a3.cell hp hpr) hpl, ao2, c2, true, ?_⟩, P, .slice dao nd dc, .slice fao nf fc, cvs, rest, HD.out, rfl, ?_, ⟨?_, ho.fns.box hl2 (by decide) (by decide) hkr⟩, hok, (a3.mono (fun q hq e => .inl e)).step hkr (fun q hq e => .inr e)⟩
      · rw [← hs2]
        exact a1.kept hkr (fun e => hlr e.symm)
      · rw [← hmem]
        exact setRow_heap w2 gp _ #[.int .i64 mem, .slice dao nd dc, .slice fao nf fc] 25 (0, 0) hl2
      · exact hkr.ownsRow ho.dat (fun q hq e => by subst e; exact own_box ho.dat hl2 (by decide) hq)
    clear ho hok a1 a2 a3 hs2 HE HD hnd hnf hmem hkr
    go_wp2_with (refine wpList_store_row rfl 25 _ _ rfl gp #[.int .i64 mem, .slice dao nd dc, .slice fao nf fc] rfl rfl 25 _ hl2 size25 rfl (three_one _ _ _ rfl rfl rfl) ?_)
    go_end0
    exact HQ.out

theorem results_rowtmp {P : Program} {fn : Func} {p u : Tmp} {ty : TypeId} (h : fn.results = #[.cell p ty, .tmp u]) (tmps : Array Value) (w : World) (g : Nat) (t : TypeId) (cs : Array Value) (fr : Nat × Nat) (d : TypeDesc)
    (hp : tmps.getD p undef = .pointer (some ⟨g, 0, none⟩)) (hg : w.heap[g]? = some (.cells cs t fr))
    (hu : P.underlying ty = some d) (hd : (match d with | .struct _ | .array _ _ => true | _ => false) = true) (hi : (P.info? ty).map (·.size) = some cs.size) :
    (results fn tmps).run P w = .ok (.tuple #[.agg cs, tmps.getD u undef]) w := by
  rw [results_cell_tmp h tmps P w, hp]
  simp [asAddr, run_loadVar_row w g t ty cs fr d hg hu hd hi]

/-- What Decode leaves. -/
def DecPR (xs : List Int) (w : World) (e : Ending) (w' : World) : Prop :=
  Kept (fun _ => False) w w' ∧ match decPD xs with
    | .error flt => e = .returned (.tuple #[.agg #[.int .i64 0, .slice none 0 0, .slice none 0 0], .int .i64 flt])
    | .ok p => (∃ dv fv cvs, e = .returned (.tuple #[.agg #[.int .i64 p.mem, dv, fv], .int .i64 0]) ∧ OwnP w.heap.size w' dv fv cvs p) ∧ p.Ok
theorem bytesD_fault {xs : List Int} (hb : ∀ x ∈ xs, 0 ≤ x ∧ x ≤ 255) {f : Int} (hf : bytesD xs = .error f) : f ≠ 0 := by
  unfold bytesD at hf
  cases hd : numD xs with
  | error e => rw [hd] at hf; cases hf; exact numD_fault hb hd
  | ok p =>
    obtain ⟨u, r⟩ := p
    rw [hd] at hf
    dsimp only at hf
    unfold rawD at hf
    split at hf
    · cases hf; decide
    · split at hf
      · cases hf; decide
      · cases hf
theorem progD_fault {xs : List Int} (hb : BytesOk xs) {f : Int} (h : progD xs = .error f) : f ≠ 0 := by
  have hfn : ∀ {xs : List Int}, BytesOk xs → ∀ {f : Int}, fnD xs = .error f → f ≠ 0 := by
    intro xs hb f h
    unfold fnD at h
    cases h1 : numD xs with
    | error e => rw [h1] at h; cases h; exact numD_fault hb.1 h1
    | ok q1 =>
      obtain ⟨a, r1⟩ := q1
      rw [h1] at h
      dsimp only at h
      have b1 := numD_rest hb h1
      cases h2 : numD r1 with
      | error e => rw [h2] at h; cases h; exact numD_fault b1.1 h2
      | ok q2 =>
        obtain ⟨l, r2⟩ := q2
        rw [h2] at h
        dsimp only at h
        have b2 := numD_rest b1 h2
        cases h3 : numD r2 with
        | error e => rw [h3] at h; cases h; exact numD_fault b2.1 h3
        | ok q3 =>
          obtain ⟨r, r3⟩ := q3
          rw [h3] at h
          dsimp only at h
          have b3 := numD_rest b2 h3
          cases h4 : bytesD r3 with
          | error e => rw [h4] at h; cases h; exact bytesD_fault b3.1 h4
          | ok q4 =>
            obtain ⟨bs, r4⟩ := q4
            rw [h4] at h
            dsimp only at h
            cases h5 : decD bs with
            | error e => rw [h5] at h; cases h; exact decD_fault (bytesD_ok b3 h4).1 h5
            | ok ys => rw [h5] at h; cases h
  have hfns : ∀ (n : Nat) {xs : List Int}, BytesOk xs → ∀ {f : Int}, fnsD n xs = .error f → f ≠ 0 := by
    intro n
    induction n with
    | zero => intro xs hb f h; cases h
    | succ n ih =>
      intro xs hb f h
      rw [fnsD] at h
      cases h1 : fnD xs with
      | error e => rw [h1] at h; cases h; exact hfn hb h1
      | ok q =>
        obtain ⟨F, r⟩ := q
        rw [h1] at h
        dsimp only at h
        cases h2 : fnsD n r with
        | error e => rw [h2] at h; cases h; exact ih (fnD_rest hb h1) h2
        | ok q2 => obtain ⟨fs, r'⟩ := q2; rw [h2] at h; cases h
  unfold progD at h
  cases h1 : numD xs with
  | error e => rw [h1] at h; cases h; exact numD_fault hb.1 h1
  | ok q1 =>
    obtain ⟨t, r0⟩ := q1
    rw [h1] at h
    dsimp only at h
    have b0 := numD_rest hb h1
    split at h
    · cases h2 : numD r0 with
      | error e => rw [h2] at h; cases h; exact numD_fault b0.1 h2
      | ok q2 =>
        obtain ⟨m, r1⟩ := q2
        rw [h2] at h
        dsimp only at h
        have b1 := numD_rest b0 h2
        cases h3 : bytesD r1 with
        | error e => rw [h3] at h; cases h; exact bytesD_fault b1.1 h3
        | ok q3 =>
          obtain ⟨d, r2⟩ := q3
          rw [h3] at h
          dsimp only at h
          have b2 := (bytesD_ok b1 h3).2
          cases h4 : numD r2 with
          | error e => rw [h4] at h; cases h; exact numD_fault b2.1 h4
          | ok q4 =>
            obtain ⟨n, r3⟩ := q4
            rw [h4] at h
            dsimp only at h
            split at h
            · cases h; decide
            · cases h5 : fnsD n.toNat r3 with
              | error e => rw [h5] at h; cases h; exact hfns _ (numD_rest b2 h4) h5
              | ok q5 => obtain ⟨fs, r4⟩ := q5; rw [h5] at h; cases h
    · cases h; decide

set_option maxHeartbeats 8000000 in
theorem decode_p (g : Nat) (bao : Option Addr) (bc : Nat) (xs : List Int) (w : World) (hx : IsR w g (.slice bao xs.length bc) xs) (hgl : g < w.heap.size) (hb : BytesOk xs) :
    Calls Try.prog 12 #[.slice bao xs.length bc] w (DecPR xs w) := by
  obtain ⟨n, hn⟩ : ∃ n, n = xs.length := ⟨_, rfl⟩
  have hk0 : Kept (fun _ => False) w (w.alloc (.cells #[.int .i64 0, .slice none 0 0, .slice none 0 0] 25)) := (Kept.refl _ _).alloc _
  have hz0 := heap_alloc_new w (.cells #[.int .i64 0, .slice none 0 0, .slice none 0 0] 25)
  by_cases hlong : 1048576 < xs.length
  · have HR : Hid (∀ w', Kept (fun _ => False) w w' → DecPR xs w (.returned (.tuple #[.agg #[.int .i64 0, .slice none 0 0, .slice none 0 0], .int .i64 2])) w') := fun w' h => ⟨h, by unfold decPD; rw [if_pos hlong]⟩
    have hb2 := hb.2
    rw [← hn] at hlong hb2 ⊢
    have hlI : (1048576 : Int) < (n : Int) := by omega
    have HK0 := hid_of hk0
    have HZ0 := hid_of hz0
    clear hx hn hb hk0 hz0
    go_enter Try.func12, Try.ntmps12
    go_wp2
    refine bodyPost_ret (v := .tuple #[.agg #[.int .i64 0, .slice none 0 0, .slice none 0 0], .int .i64 2]) ?_ rfl (HR.out _ HK0.out)
    exact results_rowtmp (fn := Try.f12) (p := 2) (u := 3) (by rfl) _ _ w.heap.size 25 _ (0, 0) _ (by rfl) HZ0.out Try.underlying25 rfl size25
  · have hlI : (n : Int) ≤ 1048576 := by omega
    have hk1 : Kept (fun _ => False) w ((w.alloc (.cells #[.int .i64 0, .slice none 0 0, .slice none 0 0] 25)).alloc (.cells #[.int .i64 0, .slice none 0 0, .slice none 0 0] 25)) := ((Kept.refl _ _).alloc _).alloc _
    have hz1 : ((w.alloc (.cells #[.int .i64 0, .slice none 0 0, .slice none 0 0] 25)).alloc (.cells #[.int .i64 0, .slice none 0 0, .slice none 0 0] 25)).heap[w.heap.size]? = some (.cells #[.int .i64 0, .slice none 0 0, .slice none 0 0] 25 (0, 0)) := by
      rw [heap_alloc_old _ _ (by simp)]
      exact hz0
    have hp1 := heap_alloc_new (w.alloc (.cells #[.int .i64 0, .slice none 0 0, .slice none 0 0] 25)) (.cells #[.int .i64 0, .slice none 0 0, .slice none 0 0] 25)
    rw [show (w.alloc (.cells #[.int .i64 0, .slice none 0 0, .slice none 0 0] 25)).heap.size = w.heap.size + 1 by simp] at hp1
    have hs1 : ((w.alloc (.cells #[.int .i64 0, .slice none 0 0, .slice none 0 0] 25)).alloc (.cells #[.int .i64 0, .slice none 0 0, .slice none 0 0] 25)).heap.size = w.heap.size + 2 := by simp
    have HF : Hid (∀ wL, Kept (fun _ => False) w wL → wL.heap[w.heap.size]? = some (.cells #[.int .i64 0, .slice none 0 0, .slice none 0 0] 25 (0, 0)) → wL.heap[w.heap.size + 1]? = some (.cells #[.int .i64 0, .slice none 0 0, .slice none 0 0] 25 (0, 0)) → wL.heap.size = w.heap.size + 2 → Calls Try.prog 27 #[.slice bao xs.length bc, .func (.func 28) #[] #[.pointer (some ⟨w.heap.size + 1, 0, none⟩)]] wL fun e w' =>
        Kept (fun _ => False) w w' ∧ w'.heap[w.heap.size]? = some (.cells #[.int .i64 0, .slice none 0 0, .slice none 0 0] 25 (0, 0)) ∧ ((∃ (p : PG) (dv fv : Value) (cvs : List Value) (rest : List Int), progD xs = .ok (p, rest) ∧ e = .returned (.int .i64 (tailOf rest.length 0)) ∧ w'.heap[w.heap.size + 1]? = some (.cells #[.int .i64 p.mem, dv, fv] 25 (0, 0)) ∧ OwnP w.heap.size w' dv fv cvs p ∧ p.Ok) ∨ ∃ flt, progD xs = .error flt ∧ e = .returned (.int .i64 flt))) := fun wL hk hz hl hs => by
      have hk0 : Kept (fun _ => False) wL ((wL.alloc (.cells #[.slice bao xs.length bc, .bool true, .int .i64 0] 74)).alloc (.cells #[.pointer (some ⟨wL.heap.size, 0, none⟩)] 60)) := ((Kept.refl _ _).alloc _).alloc _
      have hs0 : ((wL.alloc (.cells #[.slice bao xs.length bc, .bool true, .int .i64 0] 74)).alloc (.cells #[.pointer (some ⟨wL.heap.size, 0, none⟩)] 60)).heap.size = w.heap.size + 4 := by simp [hs]
      have hrd : ((wL.alloc (.cells #[.slice bao xs.length bc, .bool true, .int .i64 0] 74)).alloc (.cells #[.pointer (some ⟨wL.heap.size, 0, none⟩)] 60)).heap[wL.heap.size]? = some (.cells #[.slice bao xs.length bc, .bool true, .int .i64 0] 74 (0, 0)) := by
        rw [Below.heap_alloc _ _ _ (by simp)]
        exact heap_alloc_new wL _
      have hpp : ((wL.alloc (.cells #[.slice bao xs.length bc, .bool true, .int .i64 0] 74)).alloc (.cells #[.pointer (some ⟨wL.heap.size, 0, none⟩)] 60)).cell? ⟨wL.heap.size + 1, 0, none⟩ = some (.pointer (some ⟨wL.heap.size, 0, none⟩)) := by
        have := heap_alloc_new (wL.alloc (.cells #[.slice bao xs.length bc, .bool true, .int .i64 0] 74)) (.cells #[.pointer (some ⟨wL.heap.size, 0, none⟩)] 60)
        rw [show (wL.alloc (.cells #[.slice bao xs.length bc, .bool true, .int .i64 0] 74)).heap.size = wL.heap.size + 1 from by simp] at this
        rw [cell_block _ _ _ _ _ _ this]; rfl
      have hlb0 := (hk0.block (w.heap.size + 1) (by omega) (fun f => f)).trans hl
      have hzb0 := (hk0.block w.heap.size (by omega) (fun f => f)).trans hz
      have hd1 := decode1_p wL.heap.size g (w.heap.size + 1) (wL.heap.size + 1) _ xs ((wL.alloc (.cells #[.slice bao xs.length bc, .bool true, .int .i64 0] 74)).alloc (.cells #[.pointer (some ⟨wL.heap.size, 0, none⟩)] 60)) hrd ((hx.kept hk (fun f => f)).kept hk0 (fun f => f)) (by omega) (by omega) hb hlb0 (by omega) hpp (by omega) (by omega)
      refine (read_q (.pointer (some ⟨w.heap.size + 1, 0, none⟩)) bao xs.length bc wL _ _ _ hd1).mono ?_
      rintro e w' (⟨m, w1, rfl, ⟨p, dv, fv, cvs, rest, q1, rfl, q3, q4, q6, q5⟩, hr', hk'⟩ | ⟨flt, w1, rfl, ⟨q1, q5⟩, hr', hk'⟩ | ⟨q, older, w1, hne, hpl, rfl, hq, _⟩)
      · refine ⟨(((hk.trans hk0).step q5 (fun i hi e => by omega))).step hk' (fun i hi e => by omega), (hk'.block _ (by have := q5.size; omega) (by omega)).trans ((q5.block _ (by omega) (by omega)).trans hzb0), .inl ⟨p, dv, fv, cvs, rest, q1, rfl, (hk'.block _ (by have := q5.size; omega) (by omega)).trans q3, ?_, q6⟩⟩
        exact (q4.kept hk' (fun q hq e => by omega)).mono (by omega)
      · refine ⟨(((hk.trans hk0).step q5 (fun i hi e => by omega))).step hk' (fun i hi e => by omega), (hk'.block _ (by have := q5.size; omega) (by omega)).trans ((q5.block _ (by omega) (by omega)).trans hzb0), .inr ⟨flt, q1, rfl⟩⟩
      · exact hq.elim
    have HL : Hid (decPD xs = match progD xs with
      | .error f => .error f
      | .ok (p, rest) => if rest.length = 0 then (if checkP p = 0 then .ok p else .error (checkP p)) else .error 13) := if_neg hlong
    have HPF : Hid (∀ f, progD xs = .error f → f ≠ 0) := fun f h => progD_fault hb h
    rw [← hn] at HF ⊢
    clear hx hn hb hlong hk0 hz0
    go_enter Try.func12, Try.ntmps12
    go_upto_region 4 with fail
    have HC := hid_of (HF.out _ hk1 hz1 hp1 hs1)
    clear hk1 hz1 hp1 hs1 HF
    generalize (w.alloc (.cells #[.int .i64 0, .slice none 0 0, .slice none 0 0] 25)).alloc (.cells #[.int .i64 0, .slice none 0 0, .slice none 0 0] 25) = wL at *
    go_wp2_with fail
    refine HC.out.mono ?_
    rintro e w2 ⟨hk2, hz2, ⟨p, dv, fv, cvs, rest, q1, rfl, q3, q4, q6⟩ | ⟨flt, q1, rfl⟩⟩
    · have hL := HL.out
      rw [q1] at hL
      dsimp only at hL
      obtain ⟨dao, dc, hds⟩ := ownsRow_shape q4.dat
      obtain ⟨fao, fc, hfs⟩ := ownsRow_shape q4.fns.row
      obtain ⟨nd, hnd⟩ : ∃ n, n = p.data.length := ⟨_, rfl⟩
      obtain ⟨nf, hnf⟩ : ∃ n, n = p.fns.length := ⟨_, rfl⟩
      rw [← hnd] at hds
      rw [← hnf] at hfs
      subst hds
      subst hfs
      by_cases hrest : rest.length = 0
      · rw [if_pos hrest] at hL
        have ht : tailOf rest.length 0 = 0 := by unfold tailOf; rw [if_neg (by omega)]
        rw [ht]
        have HCK := hid_of (check_p _ p w2 w2.heap.size q4.pg (Nat.le_refl _) q6)
        have HPG := hid_of q4
        have HOK := hid_of q6
        have HL2 := hid_of hL
        obtain ⟨mem, hmem⟩ : ∃ m, m = p.mem := ⟨_, rfl⟩
        rw [← hmem] at HCK q3
        have HMEM := hid_of hmem
        have y0 := cell_block _ (w.heap.size + 1) 0 _ _ _ q3
        have y1 := cell_block _ (w.heap.size + 1) 1 _ _ _ q3
        have y2 := cell_block _ (w.heap.size + 1) 2 _ _ _ q3
        have HQ3 := hid_of q3
        have HK2 := hid_of hk2
        have HZ2 := hid_of hz2
        clear hL ht hrest q1 q3 q4 q6 hmem hk2 hz2 HC hnd hnf
        go_wp2_with fail
        refine HCK.out.mono ?_
        rintro e w3 ⟨rfl, hk3⟩
        have HK3 := hid_of (HK2.out.trans hk3)
        have hz3 := (hk3.block _ (Array.getElem?_eq_some_iff.1 HZ2.out).1 (fun f => f)).trans HZ2.out
        have hq3 := (hk3.block _ (Array.getElem?_eq_some_iff.1 HQ3.out).1 (fun f => f)).trans HQ3.out
        have HPG3 := hid_of (HPG.out.kept hk3 (fun _ _ f => f))
        clear hk3 HCK y0 y1 y2 HPG HK2 HZ2 HQ3
        by_cases hck : checkP p = 0
        · have hL := HL2.out
          rw [if_pos hck] at hL
          rw [hck]
          have hkr := kept_row w3 w.heap.size #[.int .i64 mem, .slice dao nd dc, .slice fao nf fc]
          have HXR := hid_of (setRow_heap w3 w.heap.size _ #[.int .i64 mem, .slice dao nd dc, .slice fao nf fc] 25 (0, 0) hz3)
          have HFIN : Hid (DecPR xs w (.returned (.tuple #[.agg #[.int .i64 mem, .slice dao nd dc, .slice fao nf fc], .int .i64 0])) (w3.setRow w.heap.size #[.int .i64 mem, .slice dao nd dc, .slice fao nf fc])) := by
            refine ⟨HK3.out.step hkr (fun i hi e => by omega), ?_⟩
            rw [hL]
            refine ⟨⟨_, _, cvs, ?_, ⟨hkr.ownsRow HPG3.out.dat (fun q hq e => by subst e; exact own_box HPG3.out.dat hz3 (by decide) hq), HPG3.out.fns.box hz3 (by decide) (by decide) hkr⟩⟩, HOK.out⟩
            rw [HMEM.out]
          have y0 := cell_block _ (w.heap.size + 1) 0 _ _ _ hq3
          have y1 := cell_block _ (w.heap.size + 1) 1 _ _ _ hq3
          have y2 := cell_block _ (w.heap.size + 1) 2 _ _ _ hq3
          clear hL hck hkr HPG3 HK3 hq3
          go_wp2_with (refine wpList_store_row rfl 25 _ _ rfl w.heap.size #[.int .i64 mem, .slice dao nd dc, .slice fao nf fc] rfl rfl 25 _ hz3 size25 rfl (three_one _ _ _ rfl rfl rfl) ?_)
          refine bodyPost_ret (v := .tuple #[.agg #[.int .i64 mem, .slice dao nd dc, .slice fao nf fc], .int .i64 0]) ?_ rfl HFIN.out
          exact results_rowtmp (fn := Try.f12) (p := 2) (u := 3) (by rfl) _ _ w.heap.size 25 _ (0, 0) _ (by rfl) HXR.out Try.underlying25 rfl size25
        · have hL := HL2.out
          rw [if_neg hck] at hL
          have hb1 : (checkP p == 0) = false := by simp; exact hck
          have hb2 : (checkP p != 0) = true := by simp; exact hck
          generalize checkP p = ee at *
          have hkr := kept_row w3 w.heap.size #[.int .i64 0, .slice none 0 0, .slice none 0 0]
          have HXR := hid_of (setRow_heap w3 w.heap.size _ #[.int .i64 0, .slice none 0 0, .slice none 0 0] 25 (0, 0) hz3)
          have HFIN : Hid (DecPR xs w (.returned (.tuple #[.agg #[.int .i64 0, .slice none 0 0, .slice none 0 0], .int .i64 ee])) (w3.setRow w.heap.size #[.int .i64 0, .slice none 0 0, .slice none 0 0])) := ⟨HK3.out.step hkr (fun i hi e => by omega), by rw [hL]⟩
          clear hL hck hkr HPG3 HK3 hq3 HL2
          go_wp2_with (refine wpList_store_row rfl 25 _ _ rfl w.heap.size #[.int .i64 0, .slice none 0 0, .slice none 0 0] rfl rfl 25 _ hz3 size25 rfl (three_one _ _ _ rfl rfl rfl) ?_)
          refine bodyPost_ret (v := .tuple #[.agg #[.int .i64 0, .slice none 0 0, .slice none 0 0], .int .i64 ee]) ?_ rfl HFIN.out
          exact results_rowtmp (fn := Try.f12) (p := 2) (u := 3) (by rfl) _ _ w.heap.size 25 _ (0, 0) _ (by rfl) HXR.out Try.underlying25 rfl size25
      · rw [if_neg hrest] at hL
        have ht : tailOf rest.length 0 = 13 := by unfold tailOf; rw [if_pos (by omega)]
        rw [ht]
        have hkr := kept_row w2 w.heap.size #[.int .i64 0, .slice none 0 0, .slice none 0 0]
        have HXR := hid_of (setRow_heap w2 w.heap.size _ #[.int .i64 0, .slice none 0 0, .slice none 0 0] 25 (0, 0) hz2)
        have HFIN : Hid (DecPR xs w (.returned (.tuple #[.agg #[.int .i64 0, .slice none 0 0, .slice none 0 0], .int .i64 13])) (w2.setRow w.heap.size #[.int .i64 0, .slice none 0 0, .slice none 0 0])) := ⟨hk2.step hkr (fun i hi e => by omega), by rw [hL]⟩
        clear hL ht hrest q1 q3 q4 q6 hk2 hkr HC hnd hnf
        go_wp2_with (refine wpList_store_row rfl 25 _ _ rfl w.heap.size #[.int .i64 0, .slice none 0 0, .slice none 0 0] rfl rfl 25 _ hz2 size25 rfl (three_one _ _ _ rfl rfl rfl) ?_)
        refine bodyPost_ret (v := .tuple #[.agg #[.int .i64 0, .slice none 0 0, .slice none 0 0], .int .i64 13]) ?_ rfl HFIN.out
        exact results_rowtmp (fn := Try.f12) (p := 2) (u := 3) (by rfl) _ _ w.heap.size 25 _ (0, 0) _ (by rfl) HXR.out Try.underlying25 rfl size25
    · have hL := HL.out
      rw [q1] at hL
      dsimp only at hL
      have hne := HPF.out flt q1
      have hb1 : (flt == 0) = false := by simp; exact hne
      have hb2 : (flt != 0) = true := by simp; exact hne
      have hkr := kept_row w2 w.heap.size #[.int .i64 0, .slice none 0 0, .slice none 0 0]
      have HXR := hid_of (setRow_heap w2 w.heap.size _ #[.int .i64 0, .slice none 0 0, .slice none 0 0] 25 (0, 0) hz2)
      have HFIN : Hid (DecPR xs w (.returned (.tuple #[.agg #[.int .i64 0, .slice none 0 0, .slice none 0 0], .int .i64 flt])) (w2.setRow w.heap.size #[.int .i64 0, .slice none 0 0, .slice none 0 0])) := ⟨hk2.step hkr (fun i hi e => by omega), by rw [hL]⟩
      clear hL q1 hne hk2 hkr HC
      go_wp2_with (refine wpList_store_row rfl 25 _ _ rfl w.heap.size #[.int .i64 0, .slice none 0 0, .slice none 0 0] rfl rfl 25 _ hz2 size25 rfl (three_one _ _ _ rfl rfl rfl) ?_)
      refine bodyPost_ret (v := .tuple #[.agg #[.int .i64 0, .slice none 0 0, .slice none 0 0], .int .i64 flt]) ?_ rfl HFIN.out
      exact results_rowtmp (fn := Try.f12) (p := 2) (u := 3) (by rfl) _ _ w.heap.size 25 _ (0, 0) _ (by rfl) HXR.out Try.underlying25 rfl size25
end Go.Proofs.Ytnjhnlohjhdcpab

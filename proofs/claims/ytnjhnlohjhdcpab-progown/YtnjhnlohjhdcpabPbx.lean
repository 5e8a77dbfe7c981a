/-
  Pbx: Pb, Pc, Pd.
-/
import Derived.Test.YtnjhnlohjhdcpabPa
import Derived.Lib.SmallJoins
import Derived.Great.BuildSlice
import Derived.Laws.StructEq
namespace Go.Proofs.Ytnjhnlohjhdcpab
open Go.RowKit Go.Deep
set_option linter.unusedVariables false
set_option linter.unusedSimpArgs false
set_option maxRecDepth 100000

/-- All instructions are read; there is room for so many. -/
def allD : Nat → List Int → Except Int (List IN)
  | 0, xs => if xs.length = 0 then .ok [] else .error 2
  | n + 1, xs => if xs.length = 0 then .ok [] else match oneDI xs with
    | .error f => .error f
    | .ok (y, r) => match allD n r with
      | .error f => .error f
      | .ok ys => .ok (y :: ys)
/-- Instructions ahead of others. -/
def joinI (ys : List IN) : Except Int (List IN) → Except Int (List IN)
  | .ok zs => .ok (ys ++ zs)
  | .error f => .error f
theorem joinI_nil (d : Except Int (List IN)) : joinI [] d = d := by cases d <;> rfl
theorem allD_succ (n : Nat) (xs : List Int) : allD (n + 1) xs = if xs.length = 0 then .ok [] else match oneDI xs with
    | .error f => .error f
    | .ok (y, r) => match allD n r with
      | .error f => .error f
      | .ok ys => .ok (y :: ys) := rfl
theorem allD_end (n : Nat) {xs : List Int} (h : xs.length = 0) : allD n xs = .ok [] := by
  cases n with
  | zero => unfold allD; rw [if_pos h]
  | succ n => rw [allD_succ, if_pos h]
theorem allD_long {xs : List Int} (h : xs.length ≠ 0) : allD 0 xs = .error 2 := by unfold allD; rw [if_neg h]
theorem joinI_ok {ys : List IN} {y : IN} {m : Nat} {xs rest : List Int} (h0 : xs.length ≠ 0) (h : oneDI xs = .ok (y, rest)) : joinI ys (allD (m + 1) xs) = joinI (ys ++ [y]) (allD m rest) := by
  rw [allD_succ, if_neg h0, h]
  dsimp only
  cases allD m rest with
  | error f => rfl
  | ok zs => simp [joinI]
theorem joinI_bad {ys : List IN} {m : Nat} {xs : List Int} {f : Int} (h0 : xs.length ≠ 0) (h : oneDI xs = .error f) : joinI ys (allD (m + 1) xs) = .error f := by
  rw [allD_succ, if_neg h0, h]
  rfl

theorem formD_rest {xs rest : List Int} {u : Int} (hb : BytesOk xs) (h : formD xs = .ok (u, rest)) : BytesOk rest := by
  rcases formD_cases xs hb.1 with ⟨u', r', h', he, _⟩ | h' | h'
  · rw [h'] at h
    cases h
    have g1 := hb.1
    have g2 := hb.2
    rw [he] at g1 g2
    exact ⟨fun x hx => g1 x (List.mem_append_right _ hx), by rw [List.length_append] at g2; omega⟩
  · rw [h'.1] at h; cases h
  · rw [h'.1] at h; cases h
theorem intD_rest {xs rest : List Int} {u : Int} (hb : BytesOk xs) (h : intD xs = .ok (u, rest)) : BytesOk rest := by
  unfold intD at h
  cases h1 : formD xs with
  | error e => rw [h1] at h; cases h
  | ok p =>
    obtain ⟨u', r'⟩ := p
    rw [h1] at h
    cases h
    exact formD_rest hb h1
theorem readK_rest {m : Nat} {xs rest : List Int} {u : Int} (hb : BytesOk xs) (h : readK m xs = .ok (u, rest)) : BytesOk rest := by
  unfold readK at h
  split at h
  · cases h; exact hb
  · exact intD_rest hb h
  · exact numD_rest hb h
theorem oneDI_rest {xs rest : List Int} {y : IN} (hb : BytesOk xs) (h : oneDI xs = .ok (y, rest)) : BytesOk rest := by
  unfold oneDI at h
  cases h1 : numD xs with
  | error e => rw [h1] at h; cases h
  | ok p =>
    obtain ⟨op, r1⟩ := p
    rw [h1] at h
    dsimp only at h
    split at h
    · cases h2 : readK (kOf op) r1 with
      | error e => rw [h2] at h; cases h
      | ok p =>
        obtain ⟨a, r2⟩ := p
        rw [h2] at h
        dsimp only at h
        split at h
        · cases h; exact readK_rest (numD_rest hb h1) h2
        · cases h
    · cases h

theorem left_x (r : Nat) (ao : Option Addr) (n c : Nat) (live : Bool) (f : Int) (w : World) (hr : Rd w r (.slice ao n c) live f) :
    Calls Try.prog 67 #[.pointer (some ⟨r, 0, none⟩)] w fun e w' => e = .returned (.int .i64 n) ∧ w' = w := by
  obtain ⟨q0, q1, q2, f0, f1, f2, hl⟩ := hr.cells
  clear hr
  go_enter Try.func67, Try.ntmps67
  go_wp2
  go_ret
  exact ⟨rfl, rfl⟩

theorem Try.info46 : (Try.prog.info? 46).map (fun i => (i.zero, i.size, i.bytes)) = some (some (.agg #[.int .i64 0, .int .i64 0]), 2, 16) := by kernel_rfl
theorem app_ins (W : World) (v : Value) (base : Nat) (l : List IN) (y : IN) (hown : W.ownsRow base 46 2 v l.length (icells l)) (hb : base ≤ W.heap.size) (hsz : (l.length + 1) * 16 ≤ 140737488355328) :
    ∃ v' w', (Builtin.append_ #[42, 42] 42 #[v, .slice (some ⟨W.heap.size, 0, none⟩) 1 1]).run Try.prog (W.alloc (.cells #[.int .i64 y.op, .int .i64 y.a] 46)) = .ok v' w' ∧ w'.ownsRow base 46 2 v' (l ++ [y]).length (icells (l ++ [y])) ∧ (∃ g cap, v' = .slice (some ⟨g, 0, none⟩) (l ++ [y]).length cap) ∧ Kept (fun k => v.ownBlock = some k) W w' := by
  obtain ⟨i0, hi, hz0, hz1, hz2⟩ := info_parts Try.info46
  obtain ⟨v', w', hr, h2, h3, _⟩ := run_append_own (P := Try.prog) (W.alloc (.cells #[.int .i64 y.op, .int .i64 y.a] 46)) base 42 42 46 i0 _ 2 16 Try.underlying42 hi hz0 hz1 hz2 rfl (by decide) v l.length (icells l) (hown.alloc _) ⟨W.heap.size, 0, none⟩ 1 1 y.cells rfl (fun j u hj => by
    rw [Addr.add_lit, cell_block _ _ _ _ _ _ (heap_alloc_new W _), Nat.zero_add]
    simpa [IN.cells] using hj) (fun u hu => by simp [IN.cells] at hu; rcases hu with rfl | rfl <;> rfl) (by unfold maxLen; omega) hsz (by simp; omega)
  have e : icells (l ++ [y]) = icells l ++ y.cells := by rw [icells_append]; simp [icells]
  rw [← e] at h2
  refine ⟨v', w', hr, by rw [List.length_append]; exact h2, ?_, ?_⟩
  · rw [List.length_append]
    rcases h2.2 with ⟨_, h⟩ | ⟨g, cap, cur, h, _⟩
    · simp at h
    · exact ⟨g, cap, h⟩
  · exact ((Kept.refl (fun k => v.ownBlock = some k) W).alloc _).grown h3 (fun k hk => .inr hk)

theorem wp_app2 {w : World} {ops : Array Oper} {rest : List Oper} {o : Oper} {a : Act} {Q : Exit → Act → World → Prop} (hgd : o.guard = none) (s x : Operand) (t u : TypeId)
    (ho : o.op = .call { callee := .builtin .append, args := #[s, x], argTypes := #[t, u] }) (v bv : Value) (hs : a.eval s = v) (hx : a.eval x = bv) (v' : Value) (w' : World)
    (hr : (Builtin.append_ #[t, u] o.type #[v, bv]).run Try.prog w = .ok v' w') (h : wpList Try.prog ops Q rest (a.put o.dst v') w') : wpList Try.prog ops Q (o :: rest) a w := by
  refine wpList_plain hgd fun K hK => ?_
  unfold Oper.wp execOp
  simp only [ho, resolve, invoke, builtin, Sem.run_bind, Sem.run_pure, Result.andThen_ok, List.map_toArray, List.map_cons, List.map_nil, hs, hx, hr]
  exact hK _ _ h
def lenOf : Value → Nat
  | .slice _ n _ => n
  | _ => 0
/-- What holds at the head of the loop. -/
structure AlI (w1 wr : World) (r g : Nat) (f : Int) (xs : List Int) (lv : Value) (ys : List IN) (rest : List Int) : Prop where
  pl : allD 4096 xs = joinI ys (allD (4096 - ys.length) rest)
  row : wr.ownsRow w1.heap.size 46 2 lv ys.length (icells ys)
  at' : After w1 wr r g f rest
  ok : BytesOk rest
  all : ∀ y ∈ ys, y.Ok

/-- What readAll leaves. -/
def AllP (xs : List Int) (r g : Nat) (f : Int) (w : World) (e : Ending) (w' : World) : Prop :=
  match allD 4096 xs with
  | .error flt => ThrewF r flt w e w'
  | .ok ys => (∃ v', e = .returned v' ∧ w'.ownsRow w.heap.size 46 2 v' ys.length (icells ys)) ∧ (∀ y ∈ ys, y.Ok) ∧ After w w' r g f []
theorem AllP.bad {xs : List Int} {r g : Nat} {f flt : Int} {w w1 w2 : World} (h : allD 4096 xs = .error flt) (hr : Rd w2 r (.slice none 0 0) false flt) (hk : Kept (fun q => q = r) w w1) (hk2 : Kept (fun q => q = r) w1 w2) : AllP xs r g f w (.panicked [{ v := thrownV r, recovered := false }]) w2 := by
  unfold AllP
  rw [h]
  exact ⟨rfl, hr, hk.trans hk2⟩

set_option maxHeartbeats 16000000 in
theorem readAll_x (r g : Nat) (v : Value) (xs : List Int) (w : World) (f : Int) (hr : Rd w r v true f) (hx : IsR w g v xs) (hgr : g ≠ r) (hgl : g < w.heap.size) (hb : BytesOk xs) :
    Calls Try.prog 63 #[.pointer (some ⟨r, 0, none⟩)] w (AllP xs r g f w) := by
  have hrl : r < w.heap.size := hr.cells.2.2.2.2.2.2
  have HR := hid_of hr
  have HX := hid_of hx
  have HB := hid_of hb
  clear hr hx hb
  go_enter Try.func63, Try.ntmps63
  go_wp2_with fail
  refine (operands_any w).mono ?_
  rintro e w1 ⟨gl, bx, rfl, hops, hlo, hblo, hk1⟩
  have hs1 := hk1.size
  have HO1 := hid_of hops
  have HLT : Hid (gl < w1.heap.size ∧ ∀ k, 2 ≤ k → k ≤ 6 → bx k < w1.heap.size) := ⟨block_lt_of_cell (hops.row 0 (by decide) 0 _ rfl), fun k h1 h2 => (Array.getElem?_eq_some_iff.1 (hops.box k h1 h2)).1⟩
  have HBN : Hid (∀ k, 2 ≤ k → k ≤ 6 → bx k ≠ r) := fun k h1 h2 => by have := hblo k h1 h2; omega
  have hglr : gl ≠ r := by omega
  have HK1 := hid_of hk1
  have HI0 : Hid (AlI w1 w1 r g f xs (.slice none 0 0) [] xs) := ⟨(joinI_nil _).symm, World.ownsRow_nil _ _ _ _, ⟨v, HR.out.kept hk1 (fun f => f), HX.out.kept hk1 (fun f => f), Kept.refl _ _⟩, HB.out, fun y hy => by simp at hy⟩
  clear hops hblo hk1 HR HX HB
  go_wp2
  go_loopw [4] (fun lv wr => ∃ (i : Nat) (ao : Option Addr) (cp : Nat) (ys : List IN) (rest : List Int), i ≤ 4096 ∧ ys.length = i ∧ lv = .slice ao i cp ∧ AlI w1 wr r g f xs (.slice ao i cp) ys rest) (fun lv _ => 4096 - lenOf lv)
  case atStart => exact ⟨0, none, 0, [], xs, by omega, rfl, rfl, HI0.out⟩
  case round =>
    obtain ⟨i, ao, cp, ys, rest, hi, hyl, rfl, hI⟩ := hrel
    obtain ⟨vr, c1, c2, c3⟩ := hI.at'
    obtain ⟨ro, rc, hvr⟩ := c2.shape
    subst hvr
    have HL := hid_of (left_x r ro rest.length rc true f wr c1)
    have HI := hid_of hI
    have HC1 := hid_of c1
    have HC2 := hid_of c2
    have HC3 := hid_of c3
    have HYL := hid_of hyl
    clear hI c1 c2 c3 HI0 hyl
    obtain ⟨nr, hnr⟩ : ∃ n, n = rest.length := ⟨_, rfl⟩
    rw [← hnr] at HL
    have HNR := hid_of hnr
    clear hnr
    go_wp2_with fail
    refine HL.out.mono ?_
    rintro e w2 ⟨rfl, rfl⟩
    by_cases h0 : nr = 0
    · subst h0
      have HFIN : Hid (AllP xs r g f w (.returned (.slice ao i cp)) w2) := by
        have hr0 : rest = [] := List.length_eq_zero_iff.1 HNR.out.symm
        unfold Hid AllP
        rw [HI.out.pl, allD_end _ HNR.out.symm]
        show (∃ v', _ ∧ w2.ownsRow w.heap.size 46 2 v' (ys ++ []).length (icells (ys ++ []))) ∧ (∀ y ∈ ys ++ [], y.Ok) ∧ _
        rw [List.append_nil]
        refine ⟨⟨_, rfl, Joins.ownsRow_le HI.out.row hs1⟩, HI.out.all, ?_⟩
        obtain ⟨va, q1, q2, q3⟩ := HI.out.at'
        rw [hr0] at q2
        exact ⟨va, q1, q2, (HK1.out.mono (fun _ _ f => f.elim)).trans q3⟩
      clear HL
      go_wp2
      go_ret
      exact HFIN.out
    · have hnrI : (0 : Int) < (nr : Int) := by omega
      have hnr0 : 0 < nr := by omega
      have HR0 : Hid (rest.length ≠ 0) := by unfold Hid; rw [← HNR.out]; exact h0
      clear h0 HL
      by_cases h4 : i = 4096
      · have hb4 : ((i : Int) == 4096) = true := by subst h4; rfl
        have HE : Hid (allD 4096 xs = .error 2) := by
          unfold Hid
          rw [HI.out.pl, HYL.out, h4, show 4096 - 4096 = 0 from rfl, allD_long HR0.out]
          rfl
        have HFL := hid_of (fail_x r _ f 2 w2 HC1.out (by decide))
        have HW2 : Hid (Kept (fun q => q = r) w w2) := (HK1.out.mono (fun _ _ f => f.elim)).trans HC3.out
        clear h4
        go_wp2_with fail
        refine HFL.out.mono ?_
        rintro e w6 ⟨rfl, h2, h3⟩
        exact ⟨rfl, AllP.bad HE.out h2 HW2.out h3⟩
      · have hb4 : ((i : Int) == 4096) = false := by simp; omega
        have hi4 : i < 4096 := by omega
        have hEx := readOne_x r g gl bx _ rest w2 f HC1.out HC2.out hgr (Nat.lt_of_lt_of_le hgl (Nat.le_trans hs1 HC3.out.size)) HI.out.ok (HO1.out.kept HC3.out hglr HBN.out) hglr HBN.out
        have HW2 : Hid (Kept (fun q => q = r) w w2) := (HK1.out.mono (fun _ _ f => f.elim)).trans HC3.out
        clear h4
        cases hd : oneDI rest with
        | error flt =>
          have HE : Hid (allD 4096 xs = .error flt) := by
            unfold Hid
            rw [HI.out.pl, HYL.out, show 4096 - i = (4096 - i - 1) + 1 by omega]
            exact joinI_bad HR0.out hd
          unfold OneP at hEx
          rw [hd] at hEx
          have HEX := hid_of hEx
          clear hEx hd
          go_wp2_with fail
          refine HEX.out.mono ?_
          rintro e w3 ⟨rfl, h2, h3⟩
          exact ⟨rfl, AllP.bad HE.out h2 HW2.out h3⟩
        | ok q =>
          obtain ⟨y, rest'⟩ := q
          have hEx' : Calls Try.prog 68 #[.pointer (some ⟨r, 0, none⟩), .slice (some ⟨gl, 0, none⟩) 46 46] w2 (fun e w' => (e = .returned (.agg y.cells.toArray) ∧ y.Ok) ∧ After w2 w' r g f rest') := by
            unfold OneP at hEx
            rw [hd] at hEx
            exact hEx
          have HEX := hid_of hEx'
          have HD := hid_of hd
          have HB' := hid_of (oneDI_rest HI.out.ok hd)
          clear hEx hEx' hd
          go_wp2_with fail
          refine HEX.out.mono ?_
          rintro e w3 ⟨⟨rfl, hyo⟩, v3, d1, d2, d3⟩
          have hrowlt := HI.out.row.lt
          have hrow3 := d3.ownsRow HI.out.row (fun q hq e => by have := (hrowlt q hq).1; omega)
          have hsw : w1.heap.size ≤ w3.heap.size := Nat.le_trans HC3.out.size d3.size
          have hys := HYL.out
          rw [← hys] at hrow3
          obtain ⟨v5, w5, hr5, ho5, ⟨g5, c5, hv5⟩, hk5⟩ := app_ins w3 (.slice ao ys.length cp) w1.heap.size ys y hrow3 hsw (by omega)
          have hne5 : ∀ q, (Value.slice ao ys.length cp).ownBlock = some q → w1.heap.size ≤ q := fun q hq => (hrowlt q (by rw [← hq, hys])).1
          have hK5 : Kept (fun q => q = r) w1 w5 := (HC3.out.trans d3).step hk5 (fun q hq e => by have := hne5 q e; omega)
          have hr5' := d1.kept hk5 (fun e => by have := hne5 _ e; omega)
          have hi5' := d2.kept hk5 (fun e => by have := hne5 _ e; omega)
          have hpl5 : allD 4096 xs = joinI (ys ++ [y]) (allD (4096 - (ys ++ [y]).length) rest') := by
            rw [HI.out.pl, HYL.out, List.length_append, HYL.out, show 4096 - i = (4096 - (i + [y].length)) + 1 by simp; omega]
            exact joinI_ok HR0.out HD.out
          have hl5 : (ys ++ [y]).length = i + 1 := by rw [List.length_append, hys]; rfl
          rw [hl5] at hv5
          subst hv5
          rw [hys] at hr5
          have HREL : Hid (AlI w1 w5 r g f xs (.slice (some ⟨g5, 0, none⟩) (i + 1) c5) (ys ++ [y]) rest') := ⟨hpl5, ho5, ⟨v3, hr5', hi5', hK5⟩, HB'.out, fun z hz => by
            rcases List.mem_append.1 hz with hz | hz
            · exact HI.out.all z hz
            · simp at hz; rw [hz]; exact hyo⟩
          clear hrowlt hrow3 ho5 hk5 hne5 hK5 hr5' hi5' hpl5 hl5 HI d1 d2 d3 HC3 HD HB' hyo
          obtain ⟨op, a⟩ := y
          rw [show (IN.mk op a).cells.toArray = #[.int .i64 op, .int .i64 a] from rfl]
          go_wp2_with (at_builtin; refine wp_app2 rfl (.tmp 14) (.tmp 18) 42 42 rfl _ _ rfl rfl (.slice (some ⟨g5, 0, none⟩) (i + 1) c5) w5 hr5 ?_)
          go_roundw
          case rel => exact ⟨i + 1, some ⟨g5, 0, none⟩, c5, ys ++ [⟨op, a⟩], rest', by omega, by rw [List.length_append, hys]; rfl, rfl, HREL.out⟩
          case measure => simp [lenOf]; omega
end Go.Proofs.Ytnjhnlohjhdcpab

namespace Go.Proofs.Ytnjhnlohjhdcpab
open Go.RowKit Go.Deep
set_option linter.unusedVariables false
set_option linter.unusedSimpArgs false
set_option maxRecDepth 100000

theorem numD_fault {xs : List Int} (hb : ∀ x ∈ xs, 0 ≤ x ∧ x ≤ 255) {f : Int} (hf : numD xs = .error f) : f ≠ 0 := by
  unfold numD at hf
  rcases formD_cases xs hb with ⟨u', rest', h', he, _⟩ | h' | h'
  · rw [h'] at hf
    dsimp only at hf
    split at hf
    · cases hf
    · cases hf; decide
  · rw [h'.1] at hf; cases hf; decide
  · rw [h'.1] at hf; cases hf; decide
theorem intD_fault {xs : List Int} (hb : ∀ x ∈ xs, 0 ≤ x ∧ x ≤ 255) {f : Int} (hf : intD xs = .error f) : f ≠ 0 := by
  unfold intD at hf
  rcases formD_cases xs hb with ⟨u', rest', h', he, _⟩ | h' | h'
  · rw [h'] at hf
    cases hf
  · rw [h'.1] at hf; cases hf; decide
  · rw [h'.1] at hf; cases hf; decide
theorem readK_fault {m : Nat} {xs : List Int} (hb : ∀ x ∈ xs, 0 ≤ x ∧ x ≤ 255) {f : Int} (h : readK m xs = .error f) : f ≠ 0 := by
  unfold readK at h
  split at h
  · cases h
  · exact intD_fault hb h
  · exact numD_fault hb h
theorem oneDI_fault {xs : List Int} (hb : BytesOk xs) {f : Int} (h : oneDI xs = .error f) : f ≠ 0 := by
  unfold oneDI at h
  cases h1 : numD xs with
  | error e => rw [h1] at h; cases h; exact numD_fault hb.1 h1
  | ok p =>
    obtain ⟨op, r1⟩ := p
    rw [h1] at h
    dsimp only at h
    split at h
    · cases h2 : readK (kOf op) r1 with
      | error e => rw [h2] at h; cases h; exact readK_fault (numD_rest hb h1).1 h2
      | ok p =>
        obtain ⟨a, r2⟩ := p
        rw [h2] at h
        dsimp only at h
        split at h
        · cases h
        · cases h; decide
    · cases h; decide
theorem allD_fault : ∀ (n : Nat) {xs : List Int}, BytesOk xs → ∀ {f : Int}, allD n xs = .error f → f ≠ 0
  | 0, xs, hb, f, h => by
    unfold allD at h
    split at h
    · cases h
    · cases h; decide
  | n + 1, xs, hb, f, h => by
    rw [allD_succ] at h
    split at h
    · cases h
    · cases h1 : oneDI xs with
      | error e => rw [h1] at h; cases h; exact oneDI_fault hb h1
      | ok p =>
        obtain ⟨y, r⟩ := p
        rw [h1] at h
        dsimp only at h
        cases h2 : allD n r with
        | error e => rw [h2] at h; cases h; exact allD_fault n (oneDI_rest hb h1) h2
        | ok ys => rw [h2] at h; cases h

/-- What the function literal of Decode leaves. -/
def DcOk (xs : List Int) (w0 : World) (lb r : Nat) (n : Nat) (w' : World) : Prop :=
  ∃ (ys : List IN) (v' : Value), allD 4096 xs = .ok ys ∧ n = 0 ∧ w'.cell? ⟨lb, 0, none⟩ = some v' ∧ w'.ownsRow w0.heap.size 46 2 v' ys.length (icells ys) ∧ (∀ y ∈ ys, y.Ok) ∧ Kept (fun q => q = r ∨ q = lb) w0 w'
def DcBad (xs : List Int) (w0 : World) (r : Nat) (flt : Int) (w' : World) : Prop := allD 4096 xs = .error flt ∧ Kept (fun q => q = r) w0 w'

set_option maxHeartbeats 4000000 in
theorem decode1_x (r g lb p : Nat) (v : Value) (xs : List Int) (w : World) (hr : Rd w r v true 0) (hx : IsR w g v xs) (hgr : g ≠ r) (hgl : g < w.heap.size) (hb : BytesOk xs) (hlb : w.heap[lb]? = some (.cells #[.slice none 0 0] 42 (0, 0))) (hlr : lb ≠ r) (hlg : lb ≠ g) (hp : w.cell? ⟨p, 0, none⟩ = some (.pointer (some ⟨r, 0, none⟩))) (hpr : p ≠ r) (hpl : p ≠ lb) :
    Calls Try.prog 62 #[.pointer (some ⟨r, 0, none⟩), .pointer (some ⟨lb, 0, none⟩)] w (LedX r p (DcOk xs w lb r) (DcBad xs w r) (fun _ _ => False)) := by
  have hE := readAll_x r g v xs w 0 hr hx hgr hgl hb
  unfold AllP at hE
  cases hd : allD 4096 xs with
  | error flt =>
    rw [hd] at hE
    have HE := hid_of hE
    have HD := hid_of hd
    clear hE hd hr hx
    go_enter Try.func62, Try.ntmps62
    go_wp2_with fail
    refine HE.out.mono ?_
    rintro e w2 ⟨rfl, h2, h3⟩
    refine ⟨rfl, .inr (.inl ⟨flt, [], ?_, rfl, h2, h3.cell hp (by omega), HD.out, h3⟩)⟩
    intro z hz
    cases hz
  | ok ys =>
    rw [hd] at hE
    have HE := hid_of hE
    have HD := hid_of hd
    clear hE hd hr hx
    go_enter Try.func62, Try.ntmps62
    go_wp2_with fail
    refine HE.out.mono ?_
    rintro e w2 ⟨⟨v', rfl, ho⟩, hys, v2, a1, a2, a3⟩
    have hl2 := (a3.block lb (Array.getElem?_eq_some_iff.1 hlb).1 hlr).trans hlb
    have l0 : w2.cell? ⟨lb, 0, none⟩ = some (.slice none 0 0) := by rw [cell_block _ _ _ _ _ _ hl2]; rfl
    have lf := frozen_block _ _ 0 _ _ hl2
    have ll : lb < w2.heap.size := (Array.getElem?_eq_some_iff.1 hl2).1
    obtain ⟨lo, lc, hv'⟩ := ownsRow_shape ho
    have hks := kept_set w2 lb 0 v'
    obtain ⟨ao2, c2, hs2⟩ := a2.shape
    have HQ : Hid (LedX r p (DcOk xs w lb r) (DcBad xs w r) (fun _ _ => False) (.returned (.tuple #[])) (w2.setCell ⟨lb, 0, none⟩ v')) := by
      refine .inl ⟨rfl, 0, ⟨(hks.cell (a3.cell hp hpr) hpl), ao2, c2, true, ?_⟩, ys, v', HD.out, rfl, ?_, ?_, hys, (a3.mono (fun q hq e => .inl e)).step hks (fun q hq e => .inr e)⟩
      · have hs3 : v2 = .slice ao2 0 c2 := hs2
        rw [← hs3]
        exact a1.kept hks (fun e => hlr e.symm)
      · rw [cell_block _ _ _ _ _ _ (set_block _ _ _ _ _ _ hl2 v')]; rfl
      · exact hks.ownsRow ho (fun q hq e => by have := (ho.lt q hq).1; have := (Array.getElem?_eq_some_iff.1 hlb).1; omega)
    subst hv'
    clear ho a1 a2 a3 hl2 hks hs2 HE HD
    go_wp2
    go_end0
    exact HQ.out

/-- What Decode tells: the instructions, or its error. -/
def decD (xs : List Int) : Except Int (List IN) := if 40960 < xs.length then .error 2 else allD 4096 xs
theorem decD_fault {xs : List Int} (hb : BytesOk xs) {f : Int} (h : decD xs = .error f) : f ≠ 0 := by
  unfold decD at h
  split at h
  · cases h; decide
  · exact allD_fault 4096 hb h
/-- What Decode leaves. -/
def DecR (xs : List Int) (w : World) (e : Ending) (w' : World) : Prop :=
  Kept (fun _ => False) w w' ∧ match decD xs with
    | .error flt => e = .returned (.tuple #[.slice none 0 0, .int .i64 flt])
    | .ok ys => (∃ v', e = .returned (.tuple #[v', .int .i64 0]) ∧ w'.ownsRow w.heap.size 46 2 v' ys.length (icells ys)) ∧ ∀ y ∈ ys, y.Ok

set_option maxHeartbeats 4000000 in
theorem decode_x (g : Nat) (bao : Option Addr) (bc : Nat) (xs : List Int) (w : World) (hx : IsR w g (.slice bao xs.length bc) xs) (hgl : g < w.heap.size) (hb : BytesOk xs) :
    Calls Try.prog 57 #[.slice bao xs.length bc] w (DecR xs w) := by
  obtain ⟨n, hn⟩ : ∃ n, n = xs.length := ⟨_, rfl⟩
  by_cases hlong : 40960 < xs.length
  · have HR : Hid (DecR xs w (.returned (.tuple #[.slice none 0 0, .int .i64 2])) w) := ⟨Kept.refl _ _, by unfold decD; rw [if_pos hlong]⟩
    have hb2 := hb.2
    rw [← hn] at hlong hb2 ⊢
    have hlI : (40960 : Int) < (n : Int) := by omega
    clear hx hn hb
    go_enter Try.func57, Try.ntmps57
    go_wp2
    go_ret2
    exact HR.out
  · have hlI : (n : Int) ≤ 40960 := by omega
    have hkL : Kept (fun _ => False) w (w.alloc (.cells #[.slice none 0 0] 42)) := (Kept.refl _ _).alloc _
    have hlb := heap_alloc_new w (.cells #[.slice none 0 0] 42)
    have hszL : (w.alloc (.cells #[.slice none 0 0] 42)).heap.size = w.heap.size + 1 := by simp
    have HF : Hid (∀ wL, Kept (fun _ => False) w wL → wL.heap[w.heap.size]? = some (.cells #[.slice none 0 0] 42 (0, 0)) → wL.heap.size = w.heap.size + 1 → Calls Try.prog 27 #[.slice bao xs.length bc, .func (.func 62) #[] #[.pointer (some ⟨w.heap.size, 0, none⟩)]] wL fun e w' =>
        Kept (fun _ => False) w w' ∧ ((∃ (ys : List IN) (v' : Value), allD 4096 xs = .ok ys ∧ e = .returned (.int .i64 0) ∧ w'.cell? ⟨w.heap.size, 0, none⟩ = some v' ∧ w'.ownsRow w.heap.size 46 2 v' ys.length (icells ys) ∧ ∀ y ∈ ys, y.Ok) ∨ ∃ flt, allD 4096 xs = .error flt ∧ e = .returned (.int .i64 flt) ∧ w'.cell? ⟨w.heap.size, 0, none⟩ = some (.slice none 0 0))) := fun wL hk hl hs => by
      have hk0 : Kept (fun _ => False) wL ((wL.alloc (.cells #[.slice bao xs.length bc, .bool true, .int .i64 0] 74)).alloc (.cells #[.pointer (some ⟨wL.heap.size, 0, none⟩)] 60)) := ((Kept.refl _ _).alloc _).alloc _
      have hs0 : ((wL.alloc (.cells #[.slice bao xs.length bc, .bool true, .int .i64 0] 74)).alloc (.cells #[.pointer (some ⟨wL.heap.size, 0, none⟩)] 60)).heap.size = w.heap.size + 3 := by simp [hs]
      have hrd : ((wL.alloc (.cells #[.slice bao xs.length bc, .bool true, .int .i64 0] 74)).alloc (.cells #[.pointer (some ⟨wL.heap.size, 0, none⟩)] 60)).heap[wL.heap.size]? = some (.cells #[.slice bao xs.length bc, .bool true, .int .i64 0] 74 (0, 0)) := by
        rw [Below.heap_alloc _ _ _ (by simp)]
        exact heap_alloc_new wL _
      have hpp : ((wL.alloc (.cells #[.slice bao xs.length bc, .bool true, .int .i64 0] 74)).alloc (.cells #[.pointer (some ⟨wL.heap.size, 0, none⟩)] 60)).cell? ⟨wL.heap.size + 1, 0, none⟩ = some (.pointer (some ⟨wL.heap.size, 0, none⟩)) := by
        have := heap_alloc_new (wL.alloc (.cells #[.slice bao xs.length bc, .bool true, .int .i64 0] 74)) (.cells #[.pointer (some ⟨wL.heap.size, 0, none⟩)] 60)
        rw [show (wL.alloc (.cells #[.slice bao xs.length bc, .bool true, .int .i64 0] 74)).heap.size = wL.heap.size + 1 from by simp] at this
        rw [cell_block _ _ _ _ _ _ this]; rfl
      have hlb0 := (hk0.block w.heap.size (by omega) (fun f => f)).trans hl
      have hd1 := decode1_x wL.heap.size g w.heap.size (wL.heap.size + 1) _ xs ((wL.alloc (.cells #[.slice bao xs.length bc, .bool true, .int .i64 0] 74)).alloc (.cells #[.pointer (some ⟨wL.heap.size, 0, none⟩)] 60)) hrd ((hx.kept hk (fun f => f)).kept hk0 (fun f => f)) (by omega) (by omega) hb hlb0 (by omega) (by omega) hpp (by omega) (by omega)
      refine (read_c (.pointer (some ⟨w.heap.size, 0, none⟩)) bao xs.length bc wL _ _ _ hd1).mono ?_
      rintro e w' (⟨m, w1, rfl, ⟨ys, v', q1, rfl, q3, q4, q6, q5⟩, hr', hk'⟩ | ⟨flt, w1, rfl, ⟨q1, q5⟩, hr', hk'⟩ | ⟨q, older, w1, hne, hpl, rfl, hq, _⟩)
      · refine ⟨(((hk.trans hk0).step q5 (fun i hi e => by omega))).step hk' (fun i hi e => by omega), .inl ⟨ys, v', q1, rfl, hk'.cell q3 (by show ¬ w.heap.size = _; omega), ?_, q6⟩⟩
        exact Joins.ownsRow_le (hk'.ownsRow q4 (fun q hq e => by have := (q4.lt q hq).1; omega)) (by omega)
      · refine ⟨(((hk.trans hk0).step q5 (fun i hi e => by omega))).step hk' (fun i hi e => by omega), .inr ⟨flt, q1, rfl, hk'.cell (q5.cell (v := .slice none 0 0) ?_ (by show ¬ w.heap.size = _; omega)) (by show ¬ w.heap.size = _; omega)⟩⟩
        rw [cell_block _ _ _ _ _ _ hlb0]; rfl
      · exact hq.elim
    have HL : Hid (decD xs = allD 4096 xs) := if_neg hlong
    rw [← hn] at HF ⊢
    clear hx hn hb hlong
    go_enter Try.func57, Try.ntmps57
    go_upto_region 4 with fail
    have HC := hid_of (HF.out _ hkL hlb hszL)
    clear hkL hlb hszL HF
    generalize w.alloc (.cells #[.slice none 0 0] 42) = wL at *
    go_wp2_with fail
    refine HC.out.mono ?_
    rintro e w2 ⟨hk2, ⟨ys, v', q1, rfl, q3, q4, q6⟩ | ⟨flt, q1, rfl, q3⟩⟩
    · obtain ⟨lo, lc, hv'⟩ := ownsRow_shape q4
      have HR : Hid (DecR xs w (.returned (.tuple #[v', .int .i64 0])) w2) := ⟨hk2, by rw [HL.out, q1]; exact ⟨⟨v', rfl, q4⟩, q6⟩⟩
      subst hv'
      clear hk2 q1 q4 HC
      go_wp2
      go_ret2
      exact HR.out
    · have HR : Hid (DecR xs w (.returned (.tuple #[.slice none 0 0, .int .i64 flt])) w2) := ⟨hk2, by rw [HL.out, q1]⟩
      clear hk2 q1 HC
      go_wp2
      go_ret2
      exact HR.out
end Go.Proofs.Ytnjhnlohjhdcpab

namespace Go.Proofs.Ytnjhnlohjhdcpab
open Go.RowKit Go.Deep
set_option linter.unusedVariables false
set_option linter.unusedSimpArgs false
set_option maxRecDepth 100000

/-- Are the instructions the same? -/
def sameI : List IN → List IN → Bool
  | [], [] => true
  | y :: ys, z :: zs => (y.op == z.op && y.a == z.a) && sameI ys zs
  | _, _ => false

theorem sameI_at : ∀ {ys zs : List IN} {k : Nat} {y z : IN}, ys[k]? = some y → zs[k]? = some z → sameI (ys.drop k) (zs.drop k) = ((y.op == z.op && y.a == z.a) && sameI (ys.drop (k + 1)) (zs.drop (k + 1)))
  | ys, zs, k, y, z, h1, h2 => by
    obtain ⟨l1, e1⟩ := List.getElem?_eq_some_iff.1 h1
    obtain ⟨l2, e2⟩ := List.getElem?_eq_some_iff.1 h2
    rw [List.drop_eq_getElem_cons l1, List.drop_eq_getElem_cons l2, e1, e2]
    rfl
theorem sameI_len : ∀ {ys zs : List IN}, ys.length ≠ zs.length → sameI ys zs = false
  | [], [], h => absurd rfl h
  | [], z :: zs, _ => rfl
  | y :: ys, [], _ => rfl
  | y :: ys, z :: zs, h => by
    rw [sameI, sameI_len (ys := ys) (zs := zs) (by simpa using h), Bool.and_false]
theorem sameI_refl : ∀ ys : List IN, sameI ys ys = true
  | [] => rfl
  | y :: ys => by rw [sameI, sameI_refl ys]; simp
theorem sameI_eq : ∀ {ys zs : List IN}, sameI ys zs = true → ys = zs
  | [], [], _ => rfl
  | [], z :: zs, h => by cases h
  | y :: ys, [], h => by cases h
  | ⟨yo, ya⟩ :: ys, ⟨zo, za⟩ :: zs, h => by
    rw [sameI, Bool.and_eq_true, Bool.and_eq_true] at h
    obtain ⟨⟨h1, h2⟩, h3⟩ := h
    rw [sameI_eq h3, show yo = zo by simpa using h1, show ya = za by simpa using h2]
theorem fields52 : Try.prog.underlying 46 = some (.struct (Try.prog.fieldsOf 46)) := by kernel_rfl
theorem held52 : Try.prog.stoodInHeld 46 = false := by kernel_rfl
theorem eq_fields2 (d : Nat) (xs ys : Array Value) (f0 f1 : Field) (h0 : f0.name ≠ "_") (h1 : f1.name ≠ "_") (a0 a1 b0 b1 : Value) (w : World) (q0 q1 : Bool)
    (pa0 : (part f0.type xs f0.offset).run Try.prog w = .ok a0 w) (pa1 : (part f1.type xs f1.offset).run Try.prog w = .ok a1 w)
    (pb0 : (part f0.type ys f0.offset).run Try.prog w = .ok b0 w) (pb1 : (part f1.type ys f1.offset).run Try.prog w = .ok b1 w)
    (e0 : (Op.equalIn d f0.type a0 b0).run Try.prog w = .ok q0 w) (e1 : (Op.equalIn d f1.type a1 b1).run Try.prog w = .ok q1 w) :
    (Op.eqFields d xs ys [f0, f1]).run Try.prog w = .ok (q0 && q1) w := by
  simp only [Op.eqFields, if_pos h0, if_pos h1, Sem.run_bind, pa0, pb0, e0, Result.andThen_ok]
  cases q0
  · simp [Sem.run_pure]
  · simp only [Bool.not_true, Bool.false_eq_true, if_false, Sem.run_bind, pa1, pb1, e1, Result.andThen_ok]
    cases q1 <;> simp [Sem.run_pure]
theorem run_eq52 (w : World) (a b c d : Int) : (Op.equalIn 10000 46 (.agg #[.int .i64 a, .int .i64 b]) (.agg #[.int .i64 c, .int .i64 d])).run Try.prog w = .ok (a == c && b == d) w := by
  rw [run_equalIn_struct w 9999 46 _ _ fields52 held52]
  simp only [Program.fieldsOf, Try.underlying46]
  exact eq_fields2 9999 _ _ _ _ (by decide) (by decide) _ _ _ _ w _ _ (by simp [part, Try.isAgg3]) (by simp [part, Try.isAgg3]) (by simp [part, Try.isAgg3]) (by simp [part, Try.isAgg3])
    (run_equalIn_int w 9998 3 .i64 .i64 _ _ Try.underlying3) (run_equalIn_int w 9998 3 .i64 .i64 _ _ Try.underlying3)
theorem run_neq52 (w : World) (a b c d : Int) : (binOp .neq 46 (.agg #[.int .i64 a, .int .i64 b]) (.agg #[.int .i64 c, .int .i64 d])).run Try.prog w = .ok (.bool (!(a == c && b == d))) w := by
  rw [run_neq_struct, run_eq52]
  rfl
theorem run_eql52 (w : World) (a b c d : Int) : (binOp .eql 46 (.agg #[.int .i64 a, .int .i64 b]) (.agg #[.int .i64 c, .int .i64 d])).run Try.prog w = .ok (.bool (a == c && b == d)) w := by
  rw [run_eql_struct, run_eq52]
  rfl

end Go.Proofs.Ytnjhnlohjhdcpab

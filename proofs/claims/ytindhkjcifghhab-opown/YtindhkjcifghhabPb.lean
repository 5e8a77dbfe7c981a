/-
  op.readAll by contract.
-/
import Derived.Test.YtindhkjcifghhabPa
import Derived.Lib.SmallJoins
import Derived.Great.BuildSlice
namespace Go.Proofs.Ytindhkjcifghhab
open Go.RowKit Go.Deep
set_option linter.unusedVariables false
set_option linter.unusedSimpArgs false
set_option maxRecDepth 100000

/-- All instructions are read; there is room for so many. -/
def allD : Nat → List Int → Except Int (List IN)
  | 0, xs => if xs.length = 0 then .ok [] else .error 2
  | n + 1, xs => if xs.length = 0 then .ok [] else match oneDI xs with
    | .error f => .error f
    | .ok (y, r) => match allD n r with
      | .error f => .error f
      | .ok ys => .ok (y :: ys)
/-- Instructions ahead of others. -/
def joinI (ys : List IN) : Except Int (List IN) → Except Int (List IN)
  | .ok zs => .ok (ys ++ zs)
  | .error f => .error f
theorem joinI_nil (d : Except Int (List IN)) : joinI [] d = d := by cases d <;> rfl
theorem allD_succ (n : Nat) (xs : List Int) : allD (n + 1) xs = if xs.length = 0 then .ok [] else match oneDI xs with
    | .error f => .error f
    | .ok (y, r) => match allD n r with
      | .error f => .error f
      | .ok ys => .ok (y :: ys) := rfl
theorem allD_end (n : Nat) {xs : List Int} (h : xs.length = 0) : allD n xs = .ok [] := by
  cases n with
  | zero => unfold allD; rw [if_pos h]
  | succ n => rw [allD_succ, if_pos h]
theorem allD_long {xs : List Int} (h : xs.length ≠ 0) : allD 0 xs = .error 2 := by unfold allD; rw [if_neg h]
theorem joinI_ok {ys : List IN} {y : IN} {m : Nat} {xs rest : List Int} (h0 : xs.length ≠ 0) (h : oneDI xs = .ok (y, rest)) : joinI ys (allD (m + 1) xs) = joinI (ys ++ [y]) (allD m rest) := by
  rw [allD_succ, if_neg h0, h]
  dsimp only
  cases allD m rest with
  | error f => rfl
  | ok zs => simp [joinI]
theorem joinI_bad {ys : List IN} {m : Nat} {xs : List Int} {f : Int} (h0 : xs.length ≠ 0) (h : oneDI xs = .error f) : joinI ys (allD (m + 1) xs) = .error f := by
  rw [allD_succ, if_neg h0, h]
  rfl

theorem formD_rest {xs rest : List Int} {u : Int} (hb : BytesOk xs) (h : formD xs = .ok (u, rest)) : BytesOk rest := by
  rcases formD_cases xs hb.1 with ⟨u', r', h', he, _⟩ | h' | h'
  · rw [h'] at h
    cases h
    have g1 := hb.1
    have g2 := hb.2
    rw [he] at g1 g2
    exact ⟨fun x hx => g1 x (List.mem_append_right _ hx), by rw [List.length_append] at g2; omega⟩
  · rw [h'.1] at h; cases h
  · rw [h'.1] at h; cases h
theorem intD_rest {xs rest : List Int} {u : Int} (hb : BytesOk xs) (h : intD xs = .ok (u, rest)) : BytesOk rest := by
  unfold intD at h
  cases h1 : formD xs with
  | error e => rw [h1] at h; cases h
  | ok p =>
    obtain ⟨u', r'⟩ := p
    rw [h1] at h
    cases h
    exact formD_rest hb h1
theorem readK_rest {m : Nat} {xs rest : List Int} {u : Int} (hb : BytesOk xs) (h : readK m xs = .ok (u, rest)) : BytesOk rest := by
  unfold readK at h
  split at h
  · cases h; exact hb
  · exact intD_rest hb h
  · exact numD_rest hb h
theorem oneDI_rest {xs rest : List Int} {y : IN} (hb : BytesOk xs) (h : oneDI xs = .ok (y, rest)) : BytesOk rest := by
  unfold oneDI at h
  cases h1 : numD xs with
  | error e => rw [h1] at h; cases h
  | ok p =>
    obtain ⟨op, r1⟩ := p
    rw [h1] at h
    dsimp only at h
    split at h
    · cases h2 : readK (kOf op) r1 with
      | error e => rw [h2] at h; cases h
      | ok p =>
        obtain ⟨a, r2⟩ := p
        rw [h2] at h
        dsimp only at h
        split at h
        · cases h; exact readK_rest (numD_rest hb h1) h2
        · cases h
    · cases h

theorem left_x (r : Nat) (ao : Option Addr) (n c : Nat) (live : Bool) (f : Int) (w : World) (hr : Rd w r (.slice ao n c) live f) :
    Calls Try.prog 37 #[.pointer (some ⟨r, 0, none⟩)] w fun e w' => e = .returned (.int .i64 n) ∧ w' = w := by
  obtain ⟨q0, q1, q2, f0, f1, f2, hl⟩ := hr.cells
  clear hr
  go_enter Try.func37, Try.ntmps37
  go_wp2
  go_ret
  exact ⟨rfl, rfl⟩

theorem Try.info42 : (Try.prog.info? 42).map (fun i => (i.zero, i.size, i.bytes)) = some (some (.agg #[.int .i64 0, .int .i64 0]), 2, 16) := by kernel_rfl
theorem app_ins (W : World) (v : Value) (base : Nat) (l : List IN) (y : IN) (hown : W.ownsRow base 42 2 v l.length (icells l)) (hb : base ≤ W.heap.size) (hsz : (l.length + 1) * 16 ≤ 140737488355328) :
    ∃ v' w', (Builtin.append_ #[22, 22] 22 #[v, .slice (some ⟨W.heap.size, 0, none⟩) 1 1]).run Try.prog (W.alloc (.cells #[.int .i64 y.op, .int .i64 y.a] 42)) = .ok v' w' ∧ w'.ownsRow base 42 2 v' (l ++ [y]).length (icells (l ++ [y])) ∧ (∃ g cap, v' = .slice (some ⟨g, 0, none⟩) (l ++ [y]).length cap) ∧ Kept (fun k => v.ownBlock = some k) W w' := by
  obtain ⟨i0, hi, hz0, hz1, hz2⟩ := info_parts Try.info42
  obtain ⟨v', w', hr, h2, h3, _⟩ := run_append_own (P := Try.prog) (W.alloc (.cells #[.int .i64 y.op, .int .i64 y.a] 42)) base 22 22 42 i0 _ 2 16 Try.underlying22 hi hz0 hz1 hz2 rfl (by decide) v l.length (icells l) (hown.alloc _) ⟨W.heap.size, 0, none⟩ 1 1 y.cells rfl (fun j u hj => by
    rw [Addr.add_lit, cell_block _ _ _ _ _ _ (heap_alloc_new W _), Nat.zero_add]
    simpa [IN.cells] using hj) (fun u hu => by simp [IN.cells] at hu; rcases hu with rfl | rfl <;> rfl) (by unfold maxLen; omega) hsz (by simp; omega)
  have e : icells (l ++ [y]) = icells l ++ y.cells := by rw [icells_append]; simp [icells]
  rw [← e] at h2
  refine ⟨v', w', hr, by rw [List.length_append]; exact h2, ?_, ?_⟩
  · rw [List.length_append]
    rcases h2.2 with ⟨_, h⟩ | ⟨g, cap, cur, h, _⟩
    · simp at h
    · exact ⟨g, cap, h⟩
  · exact ((Kept.refl (fun k => v.ownBlock = some k) W).alloc _).grown h3 (fun k hk => .inr hk)

theorem wp_app2 {w : World} {ops : Array Oper} {rest : List Oper} {o : Oper} {a : Act} {Q : Exit → Act → World → Prop} (hgd : o.guard = none) (s x : Operand) (t u : TypeId)
    (ho : o.op = .call { callee := .builtin .append, args := #[s, x], argTypes := #[t, u] }) (v bv : Value) (hs : a.eval s = v) (hx : a.eval x = bv) (v' : Value) (w' : World)
    (hr : (Builtin.append_ #[t, u] o.type #[v, bv]).run Try.prog w = .ok v' w') (h : wpList Try.prog ops Q rest (a.put o.dst v') w') : wpList Try.prog ops Q (o :: rest) a w := by
  refine wpList_plain hgd fun K hK => ?_
  unfold Oper.wp execOp
  simp only [ho, resolve, invoke, builtin, Sem.run_bind, Sem.run_pure, Result.andThen_ok, List.map_toArray, List.map_cons, List.map_nil, hs, hx, hr]
  exact hK _ _ h
def lenOf : Value → Nat
  | .slice _ n _ => n
  | _ => 0
/-- What holds at the head of the loop. -/
structure AlI (w1 wr : World) (r g : Nat) (f : Int) (xs : List Int) (lv : Value) (ys : List IN) (rest : List Int) : Prop where
  pl : allD 4096 xs = joinI ys (allD (4096 - ys.length) rest)
  row : wr.ownsRow w1.heap.size 42 2 lv ys.length (icells ys)
  at' : After w1 wr r g f rest
  ok : BytesOk rest
  all : ∀ y ∈ ys, y.Ok

/-- What readAll leaves. -/
def AllP (xs : List Int) (r g : Nat) (f : Int) (w : World) (e : Ending) (w' : World) : Prop :=
  match allD 4096 xs with
  | .error flt => ThrewF r flt w e w'
  | .ok ys => (∃ v', e = .returned v' ∧ w'.ownsRow w.heap.size 42 2 v' ys.length (icells ys)) ∧ (∀ y ∈ ys, y.Ok) ∧ After w w' r g f []
theorem AllP.bad {xs : List Int} {r g : Nat} {f flt : Int} {w w1 w2 : World} (h : allD 4096 xs = .error flt) (hr : Rd w2 r (.slice none 0 0) false flt) (hk : Kept (fun q => q = r) w w1) (hk2 : Kept (fun q => q = r) w1 w2) : AllP xs r g f w (.panicked [{ v := thrownV r, recovered := false }]) w2 := by
  unfold AllP
  rw [h]
  exact ⟨rfl, hr, hk.trans hk2⟩

set_option maxHeartbeats 16000000 in
theorem readAll_x (r g : Nat) (v : Value) (xs : List Int) (w : World) (f : Int) (hr : Rd w r v true f) (hx : IsR w g v xs) (hgr : g ≠ r) (hgl : g < w.heap.size) (hb : BytesOk xs) :
    Calls Try.prog 24 #[.pointer (some ⟨r, 0, none⟩)] w (AllP xs r g f w) := by
  have hrl : r < w.heap.size := hr.cells.2.2.2.2.2.2
  have HR := hid_of hr
  have HX := hid_of hx
  have HB := hid_of hb
  clear hr hx hb
  go_enter Try.func24, Try.ntmps24
  go_wp2_with fail
  refine (operands_any w).mono ?_
  rintro e w1 ⟨gl, bx, rfl, hops, hlo, hblo, hk1⟩
  have hs1 := hk1.size
  have HO1 := hid_of hops
  have HLT : Hid (gl < w1.heap.size ∧ ∀ k, 2 ≤ k → k ≤ 6 → bx k < w1.heap.size) := ⟨block_lt_of_cell (hops.row 0 (by decide) 0 _ rfl), fun k h1 h2 => (Array.getElem?_eq_some_iff.1 (hops.box k h1 h2)).1⟩
  have HBN : Hid (∀ k, 2 ≤ k → k ≤ 6 → bx k ≠ r) := fun k h1 h2 => by have := hblo k h1 h2; omega
  have hglr : gl ≠ r := by omega
  have HK1 := hid_of hk1
  have HI0 : Hid (AlI w1 w1 r g f xs (.slice none 0 0) [] xs) := ⟨(joinI_nil _).symm, World.ownsRow_nil _ _ _ _, ⟨v, HR.out.kept hk1 (fun f => f), HX.out.kept hk1 (fun f => f), Kept.refl _ _⟩, HB.out, fun y hy => by simp at hy⟩
  clear hops hblo hk1 HR HX HB
  go_wp2
  go_loopw [4] (fun lv wr => ∃ (i : Nat) (ao : Option Addr) (cp : Nat) (ys : List IN) (rest : List Int), i ≤ 4096 ∧ ys.length = i ∧ lv = .slice ao i cp ∧ AlI w1 wr r g f xs (.slice ao i cp) ys rest) (fun lv _ => 4096 - lenOf lv)
  case atStart => exact ⟨0, none, 0, [], xs, by omega, rfl, rfl, HI0.out⟩
  case round =>
    obtain ⟨i, ao, cp, ys, rest, hi, hyl, rfl, hI⟩ := hrel
    obtain ⟨vr, c1, c2, c3⟩ := hI.at'
    obtain ⟨ro, rc, hvr⟩ := c2.shape
    subst hvr
    have HL := hid_of (left_x r ro rest.length rc true f wr c1)
    have HI := hid_of hI
    have HC1 := hid_of c1
    have HC2 := hid_of c2
    have HC3 := hid_of c3
    have HYL := hid_of hyl
    clear hI c1 c2 c3 HI0 hyl
    obtain ⟨nr, hnr⟩ : ∃ n, n = rest.length := ⟨_, rfl⟩
    rw [← hnr] at HL
    have HNR := hid_of hnr
    clear hnr
    go_wp2_with fail
    refine HL.out.mono ?_
    rintro e w2 ⟨rfl, rfl⟩
    by_cases h0 : nr = 0
    · subst h0
      have HFIN : Hid (AllP xs r g f w (.returned (.slice ao i cp)) w2) := by
        have hr0 : rest = [] := List.length_eq_zero_iff.1 HNR.out.symm
        unfold Hid AllP
        rw [HI.out.pl, allD_end _ HNR.out.symm]
        show (∃ v', _ ∧ w2.ownsRow w.heap.size 42 2 v' (ys ++ []).length (icells (ys ++ []))) ∧ (∀ y ∈ ys ++ [], y.Ok) ∧ _
        rw [List.append_nil]
        refine ⟨⟨_, rfl, Joins.ownsRow_le HI.out.row hs1⟩, HI.out.all, ?_⟩
        obtain ⟨va, q1, q2, q3⟩ := HI.out.at'
        rw [hr0] at q2
        exact ⟨va, q1, q2, (HK1.out.mono (fun _ _ f => f.elim)).trans q3⟩
      clear HL
      go_wp2
      go_ret
      exact HFIN.out
    · have hnrI : (0 : Int) < (nr : Int) := by omega
      have hnr0 : 0 < nr := by omega
      have HR0 : Hid (rest.length ≠ 0) := by unfold Hid; rw [← HNR.out]; exact h0
      clear h0 HL
      by_cases h4 : i = 4096
      · have hb4 : ((i : Int) == 4096) = true := by subst h4; rfl
        have HE : Hid (allD 4096 xs = .error 2) := by
          unfold Hid
          rw [HI.out.pl, HYL.out, h4, show 4096 - 4096 = 0 from rfl, allD_long HR0.out]
          rfl
        have HFL := hid_of (fail_x r _ f 2 w2 HC1.out (by decide))
        have HW2 : Hid (Kept (fun q => q = r) w w2) := (HK1.out.mono (fun _ _ f => f.elim)).trans HC3.out
        clear h4
        go_wp2_with fail
        refine HFL.out.mono ?_
        rintro e w6 ⟨rfl, h2, h3⟩
        exact ⟨rfl, AllP.bad HE.out h2 HW2.out h3⟩
      · have hb4 : ((i : Int) == 4096) = false := by simp; omega
        have hi4 : i < 4096 := by omega
        have hEx := readOne_x r g gl bx _ rest w2 f HC1.out HC2.out hgr (Nat.lt_of_lt_of_le hgl (Nat.le_trans hs1 HC3.out.size)) HI.out.ok (HO1.out.kept HC3.out hglr HBN.out) hglr HBN.out
        have HW2 : Hid (Kept (fun q => q = r) w w2) := (HK1.out.mono (fun _ _ f => f.elim)).trans HC3.out
        clear h4
        cases hd : oneDI rest with
        | error flt =>
          have HE : Hid (allD 4096 xs = .error flt) := by
            unfold Hid
            rw [HI.out.pl, HYL.out, show 4096 - i = (4096 - i - 1) + 1 by omega]
            exact joinI_bad HR0.out hd
          unfold OneP at hEx
          rw [hd] at hEx
          have HEX := hid_of hEx
          clear hEx hd
          go_wp2_with fail
          refine HEX.out.mono ?_
          rintro e w3 ⟨rfl, h2, h3⟩
          exact ⟨rfl, AllP.bad HE.out h2 HW2.out h3⟩
        | ok q =>
          obtain ⟨y, rest'⟩ := q
          have hEx' : Calls Try.prog 39 #[.pointer (some ⟨r, 0, none⟩), .slice (some ⟨gl, 0, none⟩) 46 46] w2 (fun e w' => (e = .returned (.agg y.cells.toArray) ∧ y.Ok) ∧ After w2 w' r g f rest') := by
            unfold OneP at hEx
            rw [hd] at hEx
            exact hEx
          have HEX := hid_of hEx'
          have HD := hid_of hd
          have HB' := hid_of (oneDI_rest HI.out.ok hd)
          clear hEx hEx' hd
          go_wp2_with fail
          refine HEX.out.mono ?_
          rintro e w3 ⟨⟨rfl, hyo⟩, v3, d1, d2, d3⟩
          have hrowlt := HI.out.row.lt
          have hrow3 := d3.ownsRow HI.out.row (fun q hq e => by have := (hrowlt q hq).1; omega)
          have hsw : w1.heap.size ≤ w3.heap.size := Nat.le_trans HC3.out.size d3.size
          have hys := HYL.out
          rw [← hys] at hrow3
          obtain ⟨v5, w5, hr5, ho5, ⟨g5, c5, hv5⟩, hk5⟩ := app_ins w3 (.slice ao ys.length cp) w1.heap.size ys y hrow3 hsw (by omega)
          have hne5 : ∀ q, (Value.slice ao ys.length cp).ownBlock = some q → w1.heap.size ≤ q := fun q hq => (hrowlt q (by rw [← hq, hys])).1
          have hK5 : Kept (fun q => q = r) w1 w5 := (HC3.out.trans d3).step hk5 (fun q hq e => by have := hne5 q e; omega)
          have hr5' := d1.kept hk5 (fun e => by have := hne5 _ e; omega)
          have hi5' := d2.kept hk5 (fun e => by have := hne5 _ e; omega)
          have hpl5 : allD 4096 xs = joinI (ys ++ [y]) (allD (4096 - (ys ++ [y]).length) rest') := by
            rw [HI.out.pl, HYL.out, List.length_append, HYL.out, show 4096 - i = (4096 - (i + [y].length)) + 1 by simp; omega]
            exact joinI_ok HR0.out HD.out
          have hl5 : (ys ++ [y]).length = i + 1 := by rw [List.length_append, hys]; rfl
          rw [hl5] at hv5
          subst hv5
          rw [hys] at hr5
          have HREL : Hid (AlI w1 w5 r g f xs (.slice (some ⟨g5, 0, none⟩) (i + 1) c5) (ys ++ [y]) rest') := ⟨hpl5, ho5, ⟨v3, hr5', hi5', hK5⟩, HB'.out, fun z hz => by
            rcases List.mem_append.1 hz with hz | hz
            · exact HI.out.all z hz
            · simp at hz; rw [hz]; exact hyo⟩
          clear hrowlt hrow3 ho5 hk5 hne5 hK5 hr5' hi5' hpl5 hl5 HI d1 d2 d3 HC3 HD HB' hyo
          obtain ⟨op, a⟩ := y
          rw [show (IN.mk op a).cells.toArray = #[.int .i64 op, .int .i64 a] from rfl]
          go_wp2_with (at_builtin; refine wp_app2 rfl (.tmp 14) (.tmp 18) 22 22 rfl _ _ rfl rfl (.slice (some ⟨g5, 0, none⟩) (i + 1) c5) w5 hr5 ?_)
          go_roundw
          case rel => exact ⟨i + 1, some ⟨g5, 0, none⟩, c5, ys ++ [⟨op, a⟩], rest', by omega, by rw [List.length_append, hys]; rfl, rfl, HREL.out⟩
          case measure => simp [lenOf]; omega
end Go.Proofs.Ytindhkjcifghhab

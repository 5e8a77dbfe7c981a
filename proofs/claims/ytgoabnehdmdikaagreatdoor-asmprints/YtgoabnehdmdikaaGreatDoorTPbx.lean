/-
  TPbx: Pbx.
-/
import Derived.Test.YtgoabnehdmdikaaGreatDoorTPa
import Derived.Lib.SmallJoins
import Derived.Great.BuildSlice
import Derived.Laws.StructEq
namespace Go.Proofs.YtgoabnehdmdikaaGreatDoor
open Go.RowKit Go.Deep
set_option linter.unusedVariables false
set_option linter.unusedSimpArgs false
set_option maxRecDepth 100000

/-- All instructions are read; there is room for so many. -/
def allD : Nat → List Int → Except Int (List IN)
  | 0, xs => if xs.length = 0 then .ok [] else .error 2
  | n + 1, xs => if xs.length = 0 then .ok [] else match oneDI xs with
    | .error f => .error f
    | .ok (y, r) => match allD n r with
      | .error f => .error f
      | .ok ys => .ok (y :: ys)
/-- Instructions ahead of others. -/
def joinI (ys : List IN) : Except Int (List IN) → Except Int (List IN)
  | .ok zs => .ok (ys ++ zs)
  | .error f => .error f
theorem joinI_nil (d : Except Int (List IN)) : joinI [] d = d := by cases d <;> rfl
theorem allD_succ (n : Nat) (xs : List Int) : allD (n + 1) xs = if xs.length = 0 then .ok [] else match oneDI xs with
    | .error f => .error f
    | .ok (y, r) => match allD n r with
      | .error f => .error f
      | .ok ys => .ok (y :: ys) := rfl
theorem allD_end (n : Nat) {xs : List Int} (h : xs.length = 0) : allD n xs = .ok [] := by
  cases n with
  | zero => unfold allD; rw [if_pos h]
  | succ n => rw [allD_succ, if_pos h]
theorem allD_long {xs : List Int} (h : xs.length ≠ 0) : allD 0 xs = .error 2 := by unfold allD; rw [if_neg h]
theorem joinI_ok {ys : List IN} {y : IN} {m : Nat} {xs rest : List Int} (h0 : xs.length ≠ 0) (h : oneDI xs = .ok (y, rest)) : joinI ys (allD (m + 1) xs) = joinI (ys ++ [y]) (allD m rest) := by
  rw [allD_succ, if_neg h0, h]
  dsimp only
  cases allD m rest with
  | error f => rfl
  | ok zs => simp [joinI]
theorem joinI_bad {ys : List IN} {m : Nat} {xs : List Int} {f : Int} (h0 : xs.length ≠ 0) (h : oneDI xs = .error f) : joinI ys (allD (m + 1) xs) = .error f := by
  rw [allD_succ, if_neg h0, h]
  rfl

theorem formD_rest {xs rest : List Int} {u : Int} (hb : BytesOk xs) (h : formD xs = .ok (u, rest)) : BytesOk rest := by
  rcases formD_cases xs hb.1 with ⟨u', r', h', he, _⟩ | h' | h'
  · rw [h'] at h
    cases h
    have g1 := hb.1
    have g2 := hb.2
    rw [he] at g1 g2
    exact ⟨fun x hx => g1 x (List.mem_append_right _ hx), by rw [List.length_append] at g2; omega⟩
  · rw [h'.1] at h; cases h
  · rw [h'.1] at h; cases h
theorem intD_rest {xs rest : List Int} {u : Int} (hb : BytesOk xs) (h : intD xs = .ok (u, rest)) : BytesOk rest := by
  unfold intD at h
  cases h1 : formD xs with
  | error e => rw [h1] at h; cases h
  | ok p =>
    obtain ⟨u', r'⟩ := p
    rw [h1] at h
    cases h
    exact formD_rest hb h1
theorem readK_rest {m : Nat} {xs rest : List Int} {u : Int} (hb : BytesOk xs) (h : readK m xs = .ok (u, rest)) : BytesOk rest := by
  unfold readK at h
  split at h
  · cases h; exact hb
  · exact intD_rest hb h
  · exact numD_rest hb h
theorem oneDI_rest {xs rest : List Int} {y : IN} (hb : BytesOk xs) (h : oneDI xs = .ok (y, rest)) : BytesOk rest := by
  unfold oneDI at h
  cases h1 : numD xs with
  | error e => rw [h1] at h; cases h
  | ok p =>
    obtain ⟨op, r1⟩ := p
    rw [h1] at h
    dsimp only at h
    split at h
    · cases h2 : readK (kOf op) r1 with
      | error e => rw [h2] at h; cases h
      | ok p =>
        obtain ⟨a, r2⟩ := p
        rw [h2] at h
        dsimp only at h
        split at h
        · cases h; exact readK_rest (numD_rest hb h1) h2
        · cases h
    · cases h

theorem Tryz.info75 : (Tryz.prog.info? 75).map (fun i => (i.zero, i.size, i.bytes)) = some (some (.agg #[.int .i64 0, .int .i64 0]), 2, 16) := by kernel_rfl
theorem app_ins (W : World) (v : Value) (base : Nat) (l : List IN) (y : IN) (hown : W.ownsRow base 75 2 v l.length (icells l)) (hb : base ≤ W.heap.size) (hsz : (l.length + 1) * 16 ≤ 140737488355328) :
    ∃ v' w', (Builtin.append_ #[76, 76] 76 #[v, .slice (some ⟨W.heap.size, 0, none⟩) 1 1]).run Tryz.prog (W.alloc (.cells #[.int .i64 y.op, .int .i64 y.a] 75)) = .ok v' w' ∧ w'.ownsRow base 75 2 v' (l ++ [y]).length (icells (l ++ [y])) ∧ (∃ g cap, v' = .slice (some ⟨g, 0, none⟩) (l ++ [y]).length cap) ∧ Kept (fun k => v.ownBlock = some k) W w' := by
  obtain ⟨i0, hi, hz0, hz1, hz2⟩ := info_parts Tryz.info75
  obtain ⟨v', w', hr, h2, h3, _⟩ := run_append_own (P := Tryz.prog) (W.alloc (.cells #[.int .i64 y.op, .int .i64 y.a] 75)) base 76 76 75 i0 _ 2 16 Tryz.underlying76 hi hz0 hz1 hz2 rfl (by decide) v l.length (icells l) (hown.alloc _) ⟨W.heap.size, 0, none⟩ 1 1 y.cells rfl (fun j u hj => by
    rw [Addr.add_lit, cell_block _ _ _ _ _ _ (heap_alloc_new W _), Nat.zero_add]
    simpa [IN.cells] using hj) (fun u hu => by simp [IN.cells] at hu; rcases hu with rfl | rfl <;> rfl) (by unfold maxLen; omega) hsz (by simp; omega)
  have e : icells (l ++ [y]) = icells l ++ y.cells := by rw [icells_append]; simp [icells]
  rw [← e] at h2
  refine ⟨v', w', hr, by rw [List.length_append]; exact h2, ?_, ?_⟩
  · rw [List.length_append]
    rcases h2.2 with ⟨_, h⟩ | ⟨g, cap, cur, h, _⟩
    · simp at h
    · exact ⟨g, cap, h⟩
  · exact ((Kept.refl (fun k => v.ownBlock = some k) W).alloc _).grown h3 (fun k hk => .inr hk)

theorem wp_app2 {w : World} {ops : Array Oper} {rest : List Oper} {o : Oper} {a : Act} {Q : Exit → Act → World → Prop} (hgd : o.guard = none) (s x : Operand) (t u : TypeId)
    (ho : o.op = .call { callee := .builtin .append, args := #[s, x], argTypes := #[t, u] }) (v bv : Value) (hs : a.eval s = v) (hx : a.eval x = bv) (v' : Value) (w' : World)
    (hr : (Builtin.append_ #[t, u] o.type #[v, bv]).run Tryz.prog w = .ok v' w') (h : wpList Tryz.prog ops Q rest (a.put o.dst v') w') : wpList Tryz.prog ops Q (o :: rest) a w := by
  refine wpList_plain hgd fun K hK => ?_
  unfold Oper.wp execOp
  simp only [ho, resolve, invoke, builtin, Sem.run_bind, Sem.run_pure, Result.andThen_ok, List.map_toArray, List.map_cons, List.map_nil, hs, hx, hr]
  exact hK _ _ h
def lenOf : Value → Nat
  | .slice _ n _ => n
  | _ => 0
/-- What holds at the head of the loop. -/
structure AlI (w1 wr : World) (r g : Nat) (f : Int) (xs : List Int) (lv : Value) (ys : List IN) (rest : List Int) : Prop where
  pl : allD 4096 xs = joinI ys (allD (4096 - ys.length) rest)
  row : wr.ownsRow w1.heap.size 75 2 lv ys.length (icells ys)
  at' : After w1 wr r g f rest
  ok : BytesOk rest
  all : ∀ y ∈ ys, y.Ok

/-- What readAll leaves. -/
def AllP (xs : List Int) (r g : Nat) (f : Int) (w : World) (e : Ending) (w' : World) : Prop :=
  match allD 4096 xs with
  | .error flt => ThrewF r flt w e w'
  | .ok ys => (∃ v', e = .returned v' ∧ w'.ownsRow w.heap.size 75 2 v' ys.length (icells ys)) ∧ (∀ y ∈ ys, y.Ok) ∧ After w w' r g f []
theorem AllP.bad {xs : List Int} {r g : Nat} {f flt : Int} {w w1 w2 : World} (h : allD 4096 xs = .error flt) (hr : Rd w2 r (.slice none 0 0) false flt) (hk : Kept (fun q => q = r) w w1) (hk2 : Kept (fun q => q = r) w1 w2) : AllP xs r g f w (.panicked [{ v := thrownV r, recovered := false }]) w2 := by
  unfold AllP
  rw [h]
  exact ⟨rfl, hr, hk.trans hk2⟩

end Go.Proofs.YtgoabnehdmdikaaGreatDoor

namespace Go.Proofs.YtgoabnehdmdikaaGreatDoor
open Go.RowKit Go.Deep
set_option linter.unusedVariables false
set_option linter.unusedSimpArgs false
set_option maxRecDepth 100000

theorem numD_fault {xs : List Int} (hb : ∀ x ∈ xs, 0 ≤ x ∧ x ≤ 255) {f : Int} (hf : numD xs = .error f) : f ≠ 0 := by
  unfold numD at hf
  rcases formD_cases xs hb with ⟨u', rest', h', he, _⟩ | h' | h'
  · rw [h'] at hf
    dsimp only at hf
    split at hf
    · cases hf
    · cases hf; decide
  · rw [h'.1] at hf; cases hf; decide
  · rw [h'.1] at hf; cases hf; decide
theorem intD_fault {xs : List Int} (hb : ∀ x ∈ xs, 0 ≤ x ∧ x ≤ 255) {f : Int} (hf : intD xs = .error f) : f ≠ 0 := by
  unfold intD at hf
  rcases formD_cases xs hb with ⟨u', rest', h', he, _⟩ | h' | h'
  · rw [h'] at hf
    cases hf
  · rw [h'.1] at hf; cases hf; decide
  · rw [h'.1] at hf; cases hf; decide
theorem readK_fault {m : Nat} {xs : List Int} (hb : ∀ x ∈ xs, 0 ≤ x ∧ x ≤ 255) {f : Int} (h : readK m xs = .error f) : f ≠ 0 := by
  unfold readK at h
  split at h
  · cases h
  · exact intD_fault hb h
  · exact numD_fault hb h
theorem oneDI_fault {xs : List Int} (hb : BytesOk xs) {f : Int} (h : oneDI xs = .error f) : f ≠ 0 := by
  unfold oneDI at h
  cases h1 : numD xs with
  | error e => rw [h1] at h; cases h; exact numD_fault hb.1 h1
  | ok p =>
    obtain ⟨op, r1⟩ := p
    rw [h1] at h
    dsimp only at h
    split at h
    · cases h2 : readK (kOf op) r1 with
      | error e => rw [h2] at h; cases h; exact readK_fault (numD_rest hb h1).1 h2
      | ok p =>
        obtain ⟨a, r2⟩ := p
        rw [h2] at h
        dsimp only at h
        split at h
        · cases h
        · cases h; decide
    · cases h; decide
theorem allD_fault : ∀ (n : Nat) {xs : List Int}, BytesOk xs → ∀ {f : Int}, allD n xs = .error f → f ≠ 0
  | 0, xs, hb, f, h => by
    unfold allD at h
    split at h
    · cases h
    · cases h; decide
  | n + 1, xs, hb, f, h => by
    rw [allD_succ] at h
    split at h
    · cases h
    · cases h1 : oneDI xs with
      | error e => rw [h1] at h; cases h; exact oneDI_fault hb h1
      | ok p =>
        obtain ⟨y, r⟩ := p
        rw [h1] at h
        dsimp only at h
        cases h2 : allD n r with
        | error e => rw [h2] at h; cases h; exact allD_fault n (oneDI_rest hb h1) h2
        | ok ys => rw [h2] at h; cases h

/-- What the function literal of Decode leaves. -/
def DcOk (xs : List Int) (w0 : World) (lb r : Nat) (n : Nat) (w' : World) : Prop :=
  ∃ (ys : List IN) (v' : Value), allD 4096 xs = .ok ys ∧ n = 0 ∧ w'.cell? ⟨lb, 0, none⟩ = some v' ∧ w'.ownsRow w0.heap.size 75 2 v' ys.length (icells ys) ∧ (∀ y ∈ ys, y.Ok) ∧ Kept (fun q => q = r ∨ q = lb) w0 w'
def DcBad (xs : List Int) (w0 : World) (r : Nat) (flt : Int) (w' : World) : Prop := allD 4096 xs = .error flt ∧ Kept (fun q => q = r) w0 w'

/-- What Decode tells: the instructions, or its error. -/
def decD (xs : List Int) : Except Int (List IN) := if 40960 < xs.length then .error 2 else allD 4096 xs
theorem decD_fault {xs : List Int} (hb : BytesOk xs) {f : Int} (h : decD xs = .error f) : f ≠ 0 := by
  unfold decD at h
  split at h
  · cases h; decide
  · exact allD_fault 4096 hb h
/-- What Decode leaves. -/
def DecR (xs : List Int) (w : World) (e : Ending) (w' : World) : Prop :=
  Kept (fun _ => False) w w' ∧ match decD xs with
    | .error flt => e = .returned (.tuple #[.slice none 0 0, .int .i64 flt])
    | .ok ys => (∃ v', e = .returned (.tuple #[v', .int .i64 0]) ∧ w'.ownsRow w.heap.size 75 2 v' ys.length (icells ys)) ∧ ∀ y ∈ ys, y.Ok

end Go.Proofs.YtgoabnehdmdikaaGreatDoor

namespace Go.Proofs.YtgoabnehdmdikaaGreatDoor
open Go.RowKit Go.Deep
set_option linter.unusedVariables false
set_option linter.unusedSimpArgs false
set_option maxRecDepth 100000

/-- Are the instructions the same? -/
def sameI : List IN → List IN → Bool
  | [], [] => true
  | y :: ys, z :: zs => (y.op == z.op && y.a == z.a) && sameI ys zs
  | _, _ => false

theorem sameI_at : ∀ {ys zs : List IN} {k : Nat} {y z : IN}, ys[k]? = some y → zs[k]? = some z → sameI (ys.drop k) (zs.drop k) = ((y.op == z.op && y.a == z.a) && sameI (ys.drop (k + 1)) (zs.drop (k + 1)))
  | ys, zs, k, y, z, h1, h2 => by
    obtain ⟨l1, e1⟩ := List.getElem?_eq_some_iff.1 h1
    obtain ⟨l2, e2⟩ := List.getElem?_eq_some_iff.1 h2
    rw [List.drop_eq_getElem_cons l1, List.drop_eq_getElem_cons l2, e1, e2]
    rfl
theorem sameI_len : ∀ {ys zs : List IN}, ys.length ≠ zs.length → sameI ys zs = false
  | [], [], h => absurd rfl h
  | [], z :: zs, _ => rfl
  | y :: ys, [], _ => rfl
  | y :: ys, z :: zs, h => by
    rw [sameI, sameI_len (ys := ys) (zs := zs) (by simpa using h), Bool.and_false]
theorem sameI_refl : ∀ ys : List IN, sameI ys ys = true
  | [] => rfl
  | y :: ys => by rw [sameI, sameI_refl ys]; simp
theorem sameI_eq : ∀ {ys zs : List IN}, sameI ys zs = true → ys = zs
  | [], [], _ => rfl
  | [], z :: zs, h => by cases h
  | y :: ys, [], h => by cases h
  | ⟨yo, ya⟩ :: ys, ⟨zo, za⟩ :: zs, h => by
    rw [sameI, Bool.and_eq_true, Bool.and_eq_true] at h
    obtain ⟨⟨h1, h2⟩, h3⟩ := h
    rw [sameI_eq h3, show yo = zo by simpa using h1, show ya = za by simpa using h2]
theorem fields52 : Tryz.prog.underlying 75 = some (.struct (Tryz.prog.fieldsOf 75)) := by kernel_rfl
theorem held52 : Tryz.prog.stoodInHeld 75 = false := by kernel_rfl
theorem eq_fields2 (d : Nat) (xs ys : Array Value) (f0 f1 : Field) (h0 : f0.name ≠ "_") (h1 : f1.name ≠ "_") (a0 a1 b0 b1 : Value) (w : World) (q0 q1 : Bool)
    (pa0 : (part f0.type xs f0.offset).run Tryz.prog w = .ok a0 w) (pa1 : (part f1.type xs f1.offset).run Tryz.prog w = .ok a1 w)
    (pb0 : (part f0.type ys f0.offset).run Tryz.prog w = .ok b0 w) (pb1 : (part f1.type ys f1.offset).run Tryz.prog w = .ok b1 w)
    (e0 : (Op.equalIn d f0.type a0 b0).run Tryz.prog w = .ok q0 w) (e1 : (Op.equalIn d f1.type a1 b1).run Tryz.prog w = .ok q1 w) :
    (Op.eqFields d xs ys [f0, f1]).run Tryz.prog w = .ok (q0 && q1) w := by
  simp only [Op.eqFields, if_pos h0, if_pos h1, Sem.run_bind, pa0, pb0, e0, Result.andThen_ok]
  cases q0
  · simp [Sem.run_pure]
  · simp only [Bool.not_true, Bool.false_eq_true, if_false, Sem.run_bind, pa1, pb1, e1, Result.andThen_ok]
    cases q1 <;> simp [Sem.run_pure]
theorem run_eq52 (w : World) (a b c d : Int) : (Op.equalIn 10000 75 (.agg #[.int .i64 a, .int .i64 b]) (.agg #[.int .i64 c, .int .i64 d])).run Tryz.prog w = .ok (a == c && b == d) w := by
  rw [run_equalIn_struct w 9999 75 _ _ fields52 held52]
  simp only [Program.fieldsOf, Tryz.underlying75]
  exact eq_fields2 9999 _ _ _ _ (by decide) (by decide) _ _ _ _ w _ _ (by simp [part, Tryz.isAgg3]) (by simp [part, Tryz.isAgg3]) (by simp [part, Tryz.isAgg3]) (by simp [part, Tryz.isAgg3])
    (run_equalIn_int w 9998 3 .i64 .i64 _ _ Tryz.underlying3) (run_equalIn_int w 9998 3 .i64 .i64 _ _ Tryz.underlying3)
theorem run_neq52 (w : World) (a b c d : Int) : (binOp .neq 75 (.agg #[.int .i64 a, .int .i64 b]) (.agg #[.int .i64 c, .int .i64 d])).run Tryz.prog w = .ok (.bool (!(a == c && b == d))) w := by
  rw [run_neq_struct, run_eq52]
  rfl
theorem run_eql52 (w : World) (a b c d : Int) : (binOp .eql 75 (.agg #[.int .i64 a, .int .i64 b]) (.agg #[.int .i64 c, .int .i64 d])).run Tryz.prog w = .ok (.bool (a == c && b == d)) w := by
  rw [run_eql_struct, run_eq52]
  rfl

end Go.Proofs.YtgoabnehdmdikaaGreatDoor

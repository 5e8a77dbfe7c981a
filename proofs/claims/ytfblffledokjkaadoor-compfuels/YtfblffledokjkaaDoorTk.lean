/-
  Steps of a drawn region, taken up one by one.
-/
import Derived.Test.YtfblffledokjkaaDoorUa
namespace Go.Proofs.YtfblffledokjkaaDoor
open Go.RowKit
set_option linter.unusedVariables false
set_option maxRecDepth 100000

/-- What is taken up of a drawn region, its value the same at whatever time. -/
theorem tkp {P : Program} {ops : Array Oper} {Q : Exit → Act → World → Prop} {md : Region.Mode} {S : World → Prop} {oi : Oper} {v : Value} {fuel : Nat} {listed : Array Bool} {a : Act} {w : World} (i : Nat) (hi : ops[i]? = some oi) (hy : ∀ w : World, S w → Sem.run P (execOp a.eval oi) w = Result.ok (Next.value v) w) (h : wpAnyH P md ops Q S fuel (listed.setIfInBounds i true) (a.put oi.dst v) w)
    (hs : Region.noSelect ops = true := by kernel_rfl) (hf : Region.free md ops listed i = true := by kernel_rfl) (hr : (Region.ready md ops listed).contains i = true := by kernel_rfl) (hQ : ∀ c a w, Q (.panic c) (a.put oi.dst v) w → Q (.panic c) a w := by exact fun _ _ _ h => h) (hw : Region.wanted oi (yielded ops a.tmps) = true := by rfl) (hS : S w := by assumption) : wpAnyH P md ops Q S (fuel + 1) listed a w :=
  wpAnyH_take hi hs hf hr hQ (Or.inl ⟨hw, hy⟩) hS h
theorem tku {P : Program} {ops : Array Oper} {Q : Exit → Act → World → Prop} {md : Region.Mode} {S : World → Prop} {oi : Oper} {fuel : Nat} {listed : Array Bool} {a : Act} {w : World} (i : Nat) (hi : ops[i]? = some oi) (h : wpAnyH P md ops Q S fuel (listed.setIfInBounds i true) (a.put oi.dst undef) w)
    (hs : Region.noSelect ops = true := by kernel_rfl) (hf : Region.free md ops listed i = true := by kernel_rfl) (hr : (Region.ready md ops listed).contains i = true := by kernel_rfl) (hQ : ∀ c a w, Q (.panic c) (a.put oi.dst undef) w → Q (.panic c) a w := by exact fun _ _ _ h => h) (hw : Region.wanted oi (yielded ops a.tmps) = false := by rfl) (hS : S w := by assumption) : wpAnyH P md ops Q S (fuel + 1) listed a w :=
  wpAnyH_take hi hs hf hr hQ (Or.inr ⟨hw, rfl⟩) hS h
theorem tkg {P : Program} {ops : Array Oper} {Q : Exit → Act → World → Prop} {md : Region.Mode} {S : World → Prop} {oi : Oper} {fuel : Nat} {listed : Array Bool} {a : Act} {w : World} (i : Nat) (v : Value) (hi : ops[i]? = some oi) (hy : YieldsIf P ops S oi v a) (h : wpAnyH P md ops Q S fuel (listed.setIfInBounds i true) (a.put oi.dst v) w)
    (hs : Region.noSelect ops = true := by kernel_rfl) (hf : Region.free md ops listed i = true := by kernel_rfl) (hr : (Region.ready md ops listed).contains i = true := by kernel_rfl) (hQ : ∀ c a w, Q (.panic c) (a.put oi.dst v) w → Q (.panic c) a w := by exact fun _ _ _ h => h) (hS : S w := by assumption) : wpAnyH P md ops Q S (fuel + 1) listed a w :=
  wpAnyH_take hi hs hf hr hQ hy hS h
/-- The first operation from the k-th on that is not listed yet, what is listed with it, its place. -/
def pk : Nat → List Bool → List Oper → Option (Oper × List Bool × Nat)
  | k + 1, b :: bs, _ :: os => match pk k bs os with | some (x, l, i) => some (x, b :: l, i + 1) | none => none
  | 0, true :: bs, _ :: os => match pk 0 bs os with | some (x, l, i) => some (x, true :: l, i + 1) | none => none
  | 0, false :: bs, o :: _ => some (o, true :: bs, 0)
  | _, _, _ => none
theorem pk_spec : ∀ (os : List Oper) (k : Nat) (bs : List Bool) (x : Oper) (l : List Bool) (i : Nat), pk k bs os = some (x, l, i) → os[i]? = some x ∧ l = bs.set i true
  | [], k, bs, x, l, i, h => by cases k <;> cases bs <;> simp [pk] at h
  | o :: os, k, [], x, l, i, h => by cases k <;> simp [pk] at h
  | o :: os, k + 1, b :: bs, x, l, i, h => by
    rw [pk] at h
    cases e : pk k bs os with
    | none => rw [e] at h; cases h
    | some y =>
      obtain ⟨y, m, j⟩ := y
      rw [e] at h
      cases h
      obtain ⟨h1, h2⟩ := pk_spec os k bs _ _ _ e
      exact ⟨by simpa using h1, by rw [h2]; rfl⟩
  | o :: os, 0, true :: bs, x, l, i, h => by
    rw [pk] at h
    cases e : pk 0 bs os with
    | none => rw [e] at h; cases h
    | some y =>
      obtain ⟨y, m, j⟩ := y
      rw [e] at h
      cases h
      obtain ⟨h1, h2⟩ := pk_spec os 0 bs _ _ _ e
      exact ⟨by simpa using h1, by rw [h2]; rfl⟩
  | o :: os, 0, false :: bs, x, l, i, h => by
    rw [pk] at h
    cases h
    exact ⟨rfl, rfl⟩
theorem pk_at {ops : Array Oper} {listed : Array Bool} {k i : Nat} {x : Oper} {l : List Bool} (h : pk k listed.toList ops.toList = some (x, l, i)) : ops[i]? = some x ∧ listed.setIfInBounds i true = l.toArray := by
  obtain ⟨h1, h2⟩ := pk_spec _ _ _ _ _ _ h
  refine ⟨by rw [← Array.getElem?_toList]; exact h1, ?_⟩
  apply Array.ext'
  rw [Array.toList_setIfInBounds, h2]
theorem tkn {P : Program} {ops : Array Oper} {Q : Exit → Act → World → Prop} {md : Region.Mode} {S : World → Prop} {oi : Oper} {v : Value} {fuel i : Nat} {listed : Array Bool} {bs : List Bool} {a : Act} {w : World} (k : Nat) (hi : pk k listed.toList ops.toList = some (oi, bs, i)) (hy : ∀ w : World, S w → Sem.run P (execOp a.eval oi) w = Result.ok (Next.value v) w) (h : wpAnyH P md ops Q S fuel bs.toArray (a.put oi.dst v) w)
    (hs : Region.noSelect ops = true := by kernel_rfl) (hf : Region.free md ops listed i = true := by kernel_rfl) (hr : (Region.ready md ops listed).contains i = true := by kernel_rfl) (hQ : ∀ c a w, Q (.panic c) (a.put oi.dst v) w → Q (.panic c) a w := by exact fun _ _ _ h => h) (hw : Region.wanted oi (yielded ops a.tmps) = true := by rfl) (hS : S w := by assumption) : wpAnyH P md ops Q S (fuel + 1) listed a w :=
  wpAnyH_take (pk_at hi).1 hs hf hr hQ (Or.inl ⟨hw, hy⟩) hS (by rw [(pk_at hi).2]; exact h)
theorem tkm {P : Program} {ops : Array Oper} {Q : Exit → Act → World → Prop} {md : Region.Mode} {S : World → Prop} {oi : Oper} {fuel i : Nat} {listed : Array Bool} {bs : List Bool} {a : Act} {w : World} (k : Nat) (hi : pk k listed.toList ops.toList = some (oi, bs, i)) (h : wpAnyH P md ops Q S fuel bs.toArray (a.put oi.dst undef) w)
    (hs : Region.noSelect ops = true := by kernel_rfl) (hf : Region.free md ops listed i = true := by kernel_rfl) (hr : (Region.ready md ops listed).contains i = true := by kernel_rfl) (hQ : ∀ c a w, Q (.panic c) (a.put oi.dst undef) w → Q (.panic c) a w := by exact fun _ _ _ h => h) (hw : Region.wanted oi (yielded ops a.tmps) = false := by rfl) (hS : S w := by assumption) : wpAnyH P md ops Q S (fuel + 1) listed a w :=
  wpAnyH_take (pk_at hi).1 hs hf hr hQ (Or.inr ⟨hw, rfl⟩) hS (by rw [(pk_at hi).2]; exact h)
/-- What tidies up a frame. -/
theorem tdy : (∀ {α : Type} {xs : List α} {i : Nat} (h : i < xs.toArray.size), xs.toArray[i] = xs[i]'(by simpa using h)) ∧ (∀ {α : Type} (l : List α) (i : Nat) (a : α), l.toArray.setIfInBounds i a = (l.set i a).toArray) ∧ (∀ {α : Type} {a : α} {t : List α} (h : 0 < (a :: t).length), (a :: t)[0] = a) ∧ (∀ {α : Type} {a : α} {t : List α} {i : Nat} (h : i + 1 < (a :: t).length), (a :: t)[i + 1] = t[i]'(by simpa using h)) ∧ (∀ {α : Type} {a b : α} {t : List α}, (a :: t).set 0 b = b :: t) ∧ (∀ {α : Type} {a b : α} {t : List α} {n : Nat}, (a :: t).set (n + 1) b = a :: t.set n b) :=
  ⟨fun _ => rfl, fun _ _ _ => by simp, fun _ => rfl, fun _ => rfl, rfl, rfl⟩
theorem step_app {P : Program} {w : World} {ops : Array Oper} {o : Oper} {a : Act} {K : Act → World → Prop} {Q : Exit → Act → World → Prop} {E : Prop} (hg : o.guard = none) (s x : Operand) (t u : TypeId)
    (ho : o.op = .call { callee := .builtin .append, args := #[s, x], argTypes := #[t, u] }) (v bv : Value) (hs : a.eval s = v) (hx : a.eval x = bv) (v' : Value) (w' : World)
    (hr : (Builtin.append_ #[t, u] o.type #[v, bv]).run P w = .ok v' w') (h : K (a.put o.dst v') w') :
    if Region.wanted o (yielded ops a.tmps) = true then Oper.wp P o a w K Q else E := by
  have hw : Region.wanted o (yielded ops a.tmps) = true := by simp [Region.wanted, hg]
  rw [if_pos hw]
  unfold Oper.wp
  simp [execOp, ho, resolve, invoke, builtin, hs, hx, hr, Result.andThen]
  exact h
end Go.Proofs.YtfblffledokjkaaDoor

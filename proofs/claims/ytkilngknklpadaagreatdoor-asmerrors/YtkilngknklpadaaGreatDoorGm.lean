/-
  Maps whose keys are texts or numbers, whatever their elements.
-/
import Derived.WalkKit
import Derived.ProofKit
import Derived.MapKept
namespace Go.Proofs.YtkilngknklpadaaGreatDoor
open Go.RowKit
set_option linter.unusedVariables false
set_option linter.unusedSimpArgs false

/-- An entry: its key, what it holds, its stamp. -/
structure Me (κ α : Type) where
  k : κ
  a : α
  born : Nat
/-- How keys and elements are written as values. -/
structure Cod (κ α : Type) where
  enc : κ → Value
  val : α → Value
variable {κ α : Type} [DecidableEq κ]
def Cod.ent (c : Cod κ α) (e : Me κ α) : MapEntry := { key := c.enc e.k, val := c.val e.a, born := e.born }
/-- A map's type: its key's, its element's, its element's zero. -/
structure Cod.Fits (c : Cod κ α) (P : Program) (t : TypeId) (z : Value) : Prop where
  ty : ∃ kt et d, P.underlying t = some (.map kt et) ∧ P.underlying kt = some d ∧ (∀ a b, Instr.sameNow d (c.enc a) (c.enc b) = some (decide (a = b))) ∧ (∀ a b n w, (Instr.checkKey b (n + 1) kt (c.enc a)).run P w = .ok () w) ∧ ∀ w, (zeroValue et).run P w = .ok z w
  bits : ∀ a, Instr.sameBits 10000 (c.enc a) (c.enc a) = true

def lookI (c : Cod κ α) : List (Me κ α) → κ → Nat → Option (Nat × Value)
  | [], _, _ => none
  | e :: es, d, i => if d = e.k then some (i, c.val e.a) else lookI c es d (i + 1)
/-- What lies under a key. -/
def look : List (Me κ α) → κ → Option α
  | [], _ => none
  | e :: es, d => if d = e.k then some e.a else look es d
/-- Something lies under a key, in the place of what lay there. -/
def lays : List (Me κ α) → κ → α → Nat → List (Me κ α)
  | [], d, a, b => [⟨d, a, b⟩]
  | x :: es, d, a, b => if d = x.k then ⟨d, a, x.born⟩ :: es else x :: lays es d a b
/-- Nothing lies under a key any more. -/
def drops : List (Me κ α) → κ → List (Me κ α)
  | [], _ => []
  | e :: es, d => if d = e.k then es else e :: drops es d

theorem gotm {P : Program} {w : World} {r : Nat} {es : Array MapEntry} {c : Nat} (hb : w.heap[r]? = some (.map es c)) : (getObj r).run P w = .ok (.map es c) w := by simp [getObj, Sem.run, hb]
theorem set_gotm {P : Program} {w : World} {r : Nat} {es : Array MapEntry} {c : Nat} (o' : Obj) (hb : w.heap[r]? = some (.map es c)) : (setObj r o').run P w = .ok () { w with heap := w.heap.setIfInBounds r o' } := by simp [setObj, Sem.run, hb]

theorem find_now (c : Cod κ α) (d : TypeDesc) (h : ∀ a b, Instr.sameNow d (c.enc a) (c.enc b) = some (decide (a = b))) (k : κ) : ∀ (es : List (Me κ α)) (i : Nat), Instr.findNow d (c.enc k) (es.map c.ent) i = some (lookI c es k i)
  | [], i => rfl
  | e :: es, i => by
    rw [List.map_cons]
    unfold Instr.findNow
    rw [show (c.ent e).key = c.enc e.k from rfl, h]
    by_cases hk : k = e.k
    · simp only [hk, decide_true, lookI, if_true]
      rfl
    · simp only [hk, decide_false, lookI, if_false]
      exact find_now c d h k es (i + 1)
theorem run_find {P : Program} (c : Cod κ α) (kt : TypeId) (d : TypeDesc) (hd : P.underlying kt = some d) (h : ∀ a b, Instr.sameNow d (c.enc a) (c.enc b) = some (decide (a = b))) (k : κ) (es : List (Me κ α)) (w : World) :
    (Instr.findKey kt (c.enc k) (es.map c.ent)).run P w = .ok (lookI c es k 0) w := by
  unfold Instr.findKey
  rw [Sem.run_bind, run_underlying hd, Result.andThen_ok, find_now c d h k es 0]
  rfl
theorem look_some (c : Cod κ α) : ∀ (es : List (Me κ α)) (d : κ) (i : Nat), (lookI c es d i).map (·.2) = (look es d).map c.val
  | [], _, _ => rfl
  | e :: es, d, i => by
    unfold lookI look
    split
    · rfl
    · exact look_some c es d (i + 1)

/-- What a look-up tells. -/
def lookV (c : Cod κ α) (z : Value) (es : List (Me κ α)) (d : κ) : Value := match look es d with | some a => c.val a | none => z

theorem run_look {P : Program} {c : Cod κ α} {t : TypeId} {z : Value} (H : c.Fits P t z) (w : World) (r clock : Nat) (es : List (Me κ α)) (hb : w.heap[r]? = some (.map (es.map c.ent).toArray clock)) (d : κ) (b : Bool) :
    (Instr.lookup t (.map (some r)) (c.enc d) b).run P w = .ok (if b then .tuple #[lookV c z es d, .bool (look es d).isSome] else lookV c z es d) w := by
  obtain ⟨kt, et, td, h1, h2, h3, h4, h5⟩ := H.ty
  unfold Instr.lookup
  simp only [Sem.run_bind, run_underlying h1, Result.andThen_ok, Sem.run_pure, gotm hb, h4 d _ 9999 w]
  rw [run_find c kt td h2 h3 d es w]
  have hl := look_some c es d 0
  unfold lookV
  cases e1 : lookI c es d 0 with
  | none =>
    rw [e1] at hl
    cases e2 : look es d with
    | none => simp only [Result.andThen_ok, Sem.run_bind, h5, Sem.run_pure, Option.isSome_none]
    | some e => rw [e2] at hl; cases hl
  | some p =>
    rw [e1] at hl
    cases e2 : look es d with
    | none => rw [e2] at hl; cases hl
    | some e =>
      rw [e2] at hl
      obtain ⟨i, v⟩ := p
      have hv : v = c.val e := by simpa using hl
      subst hv
      simp only [Result.andThen_ok, Sem.run_bind, Sem.run_pure, Option.isSome_some]

theorem ents_modify (c : Cod κ α) (d : κ) (a : α) (b : Nat) : ∀ (es : List (Me κ α)) (i : Nat) (p : Nat × Value), lookI c es d i = some p → ∃ j, p.1 = i + j ∧ j < es.length ∧ (es.map c.ent).toArray.modify j (fun x => { x with key := c.enc d, val := c.val a }) = ((lays es d a b).map c.ent).toArray ∧ ((es.map c.ent).toArray[j]?).map (·.key) = some (c.enc d)
  | [], i, p, h => by cases h
  | x :: es, i, p, h => by
    unfold lookI at h
    by_cases hk : d = x.k
    · rw [if_pos hk] at h
      cases h
      refine ⟨0, rfl, by simp, ?_, by simp [Cod.ent, hk]⟩
      rw [lays, if_pos hk]
      apply Array.ext'
      simp [Cod.ent]
    · rw [if_neg hk] at h
      obtain ⟨j, h1, h2, h3, h4⟩ := ents_modify c d a b es (i + 1) p h
      refine ⟨j + 1, by omega, by simp; omega, ?_, by simpa using h4⟩
      rw [lays, if_neg hk]
      apply Array.ext'
      have := congrArg Array.toList h3
      simp at this ⊢
      exact this
theorem ents_push (c : Cod κ α) (d : κ) (a : α) (b : Nat) : ∀ (es : List (Me κ α)) (i : Nat), lookI c es d i = none → (es.map c.ent).toArray.push { key := c.enc d, val := c.val a, born := b } = ((lays es d a b).map c.ent).toArray
  | [], i, _ => by simp [lays, Cod.ent]
  | x :: es, i, h => by
    unfold lookI at h
    by_cases hk : d = x.k
    · rw [if_pos hk] at h; cases h
    · rw [if_neg hk] at h
      have := congrArg Array.toList (ents_push c d a b es (i + 1) h)
      rw [lays, if_neg hk]
      apply Array.ext'
      simp at this ⊢
      exact this

/-- A block's object, written over. -/
def World.over (w : World) (r : Nat) (o : Obj) : World := { w with heap := w.heap.setIfInBounds r o }
theorem over_same (w : World) (r : Nat) (o : Obj) (h : r < w.heap.size) : (World.over w r o).heap[r]? = some o := by
  simp [World.over, h]

theorem run_lay {P : Program} {c : Cod κ α} {t : TypeId} {z : Value} (H : c.Fits P t z) (w : World) (r clock : Nat) (es : List (Me κ α)) (hb : w.heap[r]? = some (.map (es.map c.ent).toArray clock)) (d : κ) (a : α) :
    ∃ clock', (Instr.mapUpdate t (.map (some r)) (c.enc d) (c.val a)).run P w = .ok () (World.over w r (.map ((lays es d a clock).map c.ent).toArray clock')) := by
  obtain ⟨kt, et, td, h1, h2, h3, h4, h5⟩ := H.ty
  unfold Instr.mapUpdate
  simp only [Sem.run_bind, run_underlying h1, Result.andThen_ok, gotm hb, h4 d _ 9999 w]
  rw [run_find c kt td h2 h3 d es w]
  cases e1 : lookI c es d 0 with
  | none =>
    refine ⟨clock + 1, ?_⟩
    simp only [Result.andThen_ok]
    rw [set_gotm _ hb, ents_push c d a clock es 0 e1]
    rfl
  | some p =>
    obtain ⟨j, i1, i2, i3, i4⟩ := ents_modify c d a clock es 0 p e1
    refine ⟨clock, ?_⟩
    obtain ⟨i, v⟩ := p
    have hi : i = j := by simpa using i1
    subst hi
    simp only [Result.andThen_ok, Sem.run_bind]
    rw [i4]
    unfold Instr.keyThatStays
    simp only [Option.getD_some, H.bits, if_true, Sem.run_pure, Result.andThen_ok]
    rw [set_gotm _ hb, i3]
    rfl

theorem look_lays : ∀ (es : List (Me κ α)) (d : κ) (a : α) (b : Nat) (d' : κ), look (lays es d a b) d' = if d' = d then some a else look es d'
  | [], d, a, b, d' => rfl
  | x :: es, d, a, b, d' => by
    rw [lays]
    by_cases hk : d = x.k
    · rw [if_pos hk, look, look]
      by_cases h : d' = d
      · rw [if_pos h, if_pos h]
      · rw [if_neg h, if_neg h, if_neg (fun e => h (e.trans hk.symm))]
    · rw [if_neg hk, look, look, look_lays es d a b d']
      by_cases h : d' = x.k
      · rw [if_pos h, if_pos h, if_neg (fun e => hk (e.symm.trans h))]
      · rw [if_neg h, if_neg h]
theorem lays_mem : ∀ (es : List (Me κ α)) (d : κ) (a : α) (b : Nat) (e : Me κ α), e ∈ lays es d a b → e.k = d ∧ e.a = a ∨ e ∈ es
  | [], d, a, b, e, h => by
    rw [lays, List.mem_singleton] at h
    subst h
    exact .inl ⟨rfl, rfl⟩
  | x :: es, d, a, b, e, h => by
    rw [lays] at h
    by_cases hk : d = x.k
    · rw [if_pos hk] at h
      rcases List.mem_cons.1 h with h | h
      · subst h
        exact .inl ⟨rfl, rfl⟩
      · exact .inr (List.mem_cons_of_mem _ h)
    · rw [if_neg hk] at h
      rcases List.mem_cons.1 h with h | h
      · subst h
        exact .inr (List.mem_cons_self ..)
      · exact (lays_mem es d a b e h).imp_right (List.mem_cons_of_mem _)
theorem lays_keys : ∀ (es : List (Me κ α)) (d : κ) (a : α) (b : Nat), (lays es d a b).map Me.k = if d ∈ es.map Me.k then es.map Me.k else es.map Me.k ++ [d]
  | [], d, a, b => by simp [lays]
  | x :: es, d, a, b => by
    rw [lays]
    by_cases hk : d = x.k
    · rw [if_pos hk, if_pos (by simp [hk])]
      simp [hk]
    · rw [if_neg hk, List.map_cons, lays_keys es d a b]
      by_cases h : d ∈ es.map Me.k
      · rw [if_pos h, if_pos (by rw [List.map_cons]; exact List.mem_cons_of_mem _ h), List.map_cons]
      · rw [if_neg h, if_neg (by rw [List.map_cons, List.mem_cons]; exact fun e => e.elim hk h), List.map_cons]
        rfl
theorem look_mem : ∀ (es : List (Me κ α)) (d : κ), (look es d).isSome = decide (d ∈ es.map Me.k)
  | [], d => rfl
  | x :: es, d => by
    rw [look]
    by_cases h : d = x.k
    · rw [if_pos h]; simp [h]
    · rw [if_neg h, look_mem es d]; simp [h]
theorem look_there : ∀ {es : List (Me κ α)} {d : κ} {a : α}, look es d = some a → ∃ e ∈ es, e.k = d ∧ e.a = a
  | x :: es, d, a, h => by
    rw [look] at h
    by_cases hk : d = x.k
    · rw [if_pos hk] at h
      cases h
      exact ⟨x, List.mem_cons_self .., hk.symm, rfl⟩
    · rw [if_neg hk] at h
      obtain ⟨e, he, h1⟩ := look_there h
      exact ⟨e, List.mem_cons_of_mem _ he, h1⟩
theorem drops_mem : ∀ (es : List (Me κ α)) (d : κ) (e : Me κ α), e ∈ drops es d → e ∈ es
  | [], _, _, h => h
  | x :: es, d, e, h => by
    rw [drops] at h
    by_cases hk : d = x.k
    · rw [if_pos hk] at h
      exact List.mem_cons_of_mem _ h
    · rw [if_neg hk] at h
      rcases List.mem_cons.1 h with h | h
      · rw [h]; exact List.mem_cons_self ..
      · exact List.mem_cons_of_mem _ (drops_mem es d e h)
theorem ents_erase (c : Cod κ α) (d : κ) : ∀ (es : List (Me κ α)) (i : Nat) (p : Nat × Value), lookI c es d i = some p → ∃ j, p.1 = i + j ∧ (es.map c.ent).toArray.eraseIdxIfInBounds j = ((drops es d).map c.ent).toArray
  | [], i, p, h => by cases h
  | x :: es, i, p, h => by
    unfold lookI at h
    by_cases hk : d = x.k
    · rw [if_pos hk] at h
      cases h
      refine ⟨0, rfl, ?_⟩
      rw [drops, if_pos hk]
      apply Array.ext'
      simp
    · rw [if_neg hk] at h
      obtain ⟨j, h1, h2⟩ := ents_erase c d es (i + 1) p h
      refine ⟨j + 1, by omega, ?_⟩
      rw [drops, if_neg hk]
      apply Array.ext'
      have := congrArg Array.toList h2
      simp at this ⊢
      exact this
theorem run_drop {P : Program} {c : Cod κ α} {t : TypeId} {z : Value} (H : c.Fits P t z) (w : World) (r clock : Nat) (es : List (Me κ α)) (hb : w.heap[r]? = some (.map (es.map c.ent).toArray clock)) (d : κ) (hl : (look es d).isSome = true) (kt ty : TypeId) :
    (Builtin.delete_ #[t, kt] ty #[.map (some r), c.enc d]).run P w = .ok (.tuple #[]) (World.over w r (.map ((drops es d).map c.ent).toArray clock)) := by
  obtain ⟨kt', et, td, h1, h2, h3, h4, h5⟩ := H.ty
  have hs := look_some c es d 0
  unfold Builtin.delete_
  simp only [Sem.run_bind, run_underlying h1, Result.andThen_ok, gotm hb, h4 d _ 9999 w, List.getElem?_toArray, List.getElem?_cons_zero, List.getElem?_cons_succ]
  rw [run_find c kt' td h2 h3 d es w]
  cases e1 : lookI c es d 0 with
  | none =>
    rw [e1] at hs
    cases e2 : look es d with
    | none => rw [e2] at hl; cases hl
    | some e => rw [e2] at hs; cases hs
  | some p =>
    obtain ⟨j, i1, i3⟩ := ents_erase c d es 0 p e1
    obtain ⟨i, v⟩ := p
    have hi : i = j := by simpa using i1
    subst hi
    simp only [Result.andThen_ok]
    rw [Sem.run_bind, set_gotm _ hb, ← i3]
    rfl
theorem look_drops : ∀ (es : List (Me κ α)) (d d' : κ), (es.map Me.k).Nodup → look (drops es d) d' = if d' = d then none else look es d'
  | [], d, d', _ => by simp [drops, look]
  | x :: es, d, d', hn => by
    rw [List.map_cons, List.nodup_cons] at hn
    rw [drops]
    by_cases hk : d = x.k
    · rw [if_pos hk, look]
      by_cases h : d' = d
      · rw [if_pos h]
        have h2 := look_mem es d'
        rw [h, hk] at h2
        rw [decide_eq_false hn.1] at h2
        rw [h, hk]
        cases h3 : look es x.k with
        | none => rfl
        | some a => rw [h3] at h2; cases h2
      · rw [if_neg h, if_neg (fun e => h (e.trans hk.symm))]
    · rw [if_neg hk, look, look, look_drops es d d' hn.2]
      by_cases h : d' = d
      · rw [if_pos h, if_pos h, if_neg (fun e => hk (h.symm.trans e))]
      · rw [if_neg h, if_neg h]
theorem drops_keys : ∀ (es : List (Me κ α)) (d : κ), ((drops es d).map Me.k).Sublist (es.map Me.k)
  | [], _ => List.Sublist.slnil
  | x :: es, d => by
    rw [drops]
    by_cases hk : d = x.k
    · rw [if_pos hk, List.map_cons]
      exact List.sublist_cons_self _ _
    · rw [if_neg hk, List.map_cons, List.map_cons]
      exact (drops_keys es d).cons_cons _
end Go.Proofs.YtkilngknklpadaaGreatDoor

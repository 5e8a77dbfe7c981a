/-
  Maps from digests to what lies there.
-/
import Derived.Test.YtjdbmjkidljhpaaDoorEql
import Derived.MapKept
namespace Go.Proofs.YtjdbmjkidljhpaaDoor
open Go.RowKit
set_option linter.unusedVariables false
set_option linter.unusedSimpArgs false

/-- A digest as a value. -/
def dv (d : List Int) : Value := .agg (d.map (Value.int .u8)).toArray
/-- What lies under a digest. -/
structure En where
  k : List Int
  bv : Value
  xs : List Int
  st : Int
  born : Nat
def En.val (e : En) : Value := .agg #[e.bv, .int .i64 e.st]
def En.ent (e : En) : MapEntry := { key := dv e.k, val := e.val, born := e.born }

theorem run_forIn_unit {P : Program} {w : World} (f : Nat → Unit → Sem (ForInStep Unit)) : ∀ l : List Nat, (∀ i ∈ l, ∀ s, (f i s).run P w = .ok (.yield ()) w) → (forIn l () f).run P w = .ok () w
  | [], _ => by simp [Sem.run_pure]
  | i :: l, hf => by
    simp only [List.forIn_cons, Sem.run_bind, hf i (List.mem_cons_self ..), Result.andThen_ok]
    exact run_forIn_unit f l (fun j hj => hf j (List.mem_cons_of_mem _ hj))

theorem check_byte (w : World) (b : Bool) (n : Nat) (x : Int) : (Instr.checkKey b (n + 1) 5 (.int .u8 x)).run Tryd.prog w = .ok () w := by
  unfold Instr.checkKey
  simp [run_underlying Tryd.underlying5, Sem.run_pure]
set_option maxRecDepth 100000 in
theorem check_digest (w : World) (b : Bool) (n : Nat) (d : List Int) (hd : d.length = 32) : (Instr.checkKey b (n + 2) 28 (dv d)).run Tryd.prog w = .ok () w := by
  have hb : ∀ i, i < 32 → (part 5 (d.map (Value.int .u8)).toArray (i * 1)).run Tryd.prog w = .ok (.int .u8 (d.getD i 0)) w := fun i hi => part_at w _ i _ (by simp [List.getD, List.getElem?_eq_getElem (show i < d.length by omega)])
  unfold Instr.checkKey dv
  simp only [Sem.run_bind, run_underlying Tryd.underlying28, Result.andThen_ok, Std.Legacy.Range.forIn_eq_forIn_range']
  have hf := run_forIn_unit (P := Tryd.prog) (w := w) (fun i __s => do
      let sz ← sizeOf 5
      let v ← part 5 (List.map (Value.int IntKind.u8) d).toArray (i * sz)
      Instr.checkKey b (n + 1) 5 v
      pure (ForInStep.yield PUnit.unit)) (List.range' 0 [:32].size) (fun i hi s => by
    have hn : i < 32 := by
      simp [Std.Legacy.Range.size, List.mem_range'_1] at hi
      exact hi
    simp only [Sem.run_bind, Tryd.sizeOf5, hb i hn, Result.andThen_ok, check_byte]
    rfl)
  rw [hf]
  rfl

/-- What is found under a digest, and where. -/
def lookI : List En → List Int → Nat → Option (Nat × Value)
  | [], _, _ => none
  | e :: es, d, i => if d = e.k then some (i, e.val) else lookI es d (i + 1)
def look : List En → List Int → Option En
  | [], _ => none
  | e :: es, d => if d = e.k then some e else look es d

theorem run_ask (w : World) (d : List Int) (hd : d.length = 32) : ∀ (es : List En) (i : Nat), (∀ e ∈ es, e.k.length = 32) → (Instr.findAsking 28 (dv d) (es.map En.ent) i).run Tryd.prog w = .ok (lookI es d i) w
  | [], i, _ => by simp [Instr.findAsking, lookI, Sem.run_pure]
  | e :: es, i, h => by
    have h1 : (Op.equal 28 (dv d) (dv e.k)).run Tryd.prog w = .ok (decide (d = e.k)) w := run_eq_arr w 9998 28 32 d e.k Tryd.underlying28 hd (h e (List.mem_cons_self ..))
    rw [List.map_cons]
    unfold Instr.findAsking
    rw [Sem.run_bind, show (En.ent e).key = dv e.k from rfl, h1, Result.andThen_ok]
    by_cases hk : d = e.k
    · simp only [hk, decide_true, if_true, lookI]
      rfl
    · simp only [hk, decide_false, lookI, if_false, Bool.false_eq_true]
      exact run_ask w d hd es (i + 1) (fun x hx => h x (List.mem_cons_of_mem _ hx))

theorem got {w : World} {r : Nat} {es : Array MapEntry} {c : Nat} (hb : w.heap[r]? = some (.map es c)) : (getObj r).run Tryd.prog w = .ok (.map es c) w := by simp [getObj, Sem.run, hb]
theorem set_got {w : World} {r : Nat} {es : Array MapEntry} {c : Nat} (o' : Obj) (hb : w.heap[r]? = some (.map es c)) : (setObj r o').run Tryd.prog w = .ok () { w with heap := w.heap.setIfInBounds r o' } := by simp [setObj, Sem.run, hb]

theorem run_find (w : World) (d : List Int) (hd : d.length = 32) (es : List En) (h : ∀ e ∈ es, e.k.length = 32) : (Instr.findKey 28 (dv d) (es.map En.ent)).run Tryd.prog w = .ok (lookI es d 0) w := by
  unfold Instr.findKey
  rw [Sem.run_bind, run_underlying Tryd.underlying28, Result.andThen_ok]
  cases es with
  | nil => rfl
  | cons e es =>
    have hn : Instr.findNow (.array 32 5) (dv d) ((e :: es).map En.ent) 0 = none := rfl
    rw [hn]
    exact run_ask w d hd (e :: es) 0 h

theorem look_some : ∀ (es : List En) (d : List Int) (i : Nat), (lookI es d i).map (·.2) = (look es d).map En.val
  | [], _, _ => rfl
  | e :: es, d, i => by
    unfold lookI look
    split
    · rfl
    · exact look_some es d (i + 1)

/-- The zero value of what lies. -/
def noLaid : Value := .agg #[.slice none 0 0, .int .i64 0]
theorem zero65 (w : World) : (zeroValue 65).run Tryd.prog w = .ok noLaid w := by kernel_rfl
def lookV (es : List En) (d : List Int) : Value := match look es d with | some e => e.val | none => noLaid

theorem run_look_none (w : World) (d : List Int) (hd : d.length = 32) (c : Bool) : (Instr.lookup 59 (.map none) (dv d) c).run Tryd.prog w = .ok (if c then .tuple #[noLaid, .bool false] else noLaid) w := by
  unfold Instr.lookup
  simp only [Sem.run_bind, run_underlying Tryd.underlying59, Result.andThen_ok, Sem.run_pure, check_digest w _ 9998 d hd]
  have hf := run_find w d hd [] (fun _ h => by cases h)
  rw [List.map_nil] at hf
  simp only [hf, lookI, Result.andThen_ok, Sem.run_bind, zero65, Sem.run_pure]

theorem run_look (w : World) (r clock : Nat) (es : List En) (hb : w.heap[r]? = some (.map (es.map En.ent).toArray clock)) (h : ∀ e ∈ es, e.k.length = 32) (d : List Int) (hd : d.length = 32) (c : Bool) :
    (Instr.lookup 59 (.map (some r)) (dv d) c).run Tryd.prog w = .ok (if c then .tuple #[lookV es d, .bool (look es d).isSome] else lookV es d) w := by
  unfold Instr.lookup
  simp only [Sem.run_bind, run_underlying Tryd.underlying59, Result.andThen_ok, Sem.run_pure, got hb, check_digest w _ 9998 d hd]
  rw [run_find w d hd es h]
  have hl := look_some es d 0
  unfold lookV
  cases h1 : lookI es d 0 with
  | none =>
    rw [h1] at hl
    cases h2 : look es d with
    | none => simp only [Result.andThen_ok, Sem.run_bind, zero65, Sem.run_pure, Option.isSome_none]
    | some e => rw [h2] at hl; cases hl
  | some p =>
    rw [h1] at hl
    cases h2 : look es d with
    | none => rw [h2] at hl; cases hl
    | some e =>
      rw [h2] at hl
      obtain ⟨i, v⟩ := p
      have hv : v = e.val := by simpa using hl
      subst hv
      simp only [Result.andThen_ok, Sem.run_bind, Sem.run_pure, Option.isSome_some]

/-- One thing more lies there, in the place of what lay under its digest. -/
def lays : List En → En → List En
  | [], e => [e]
  | x :: es, e => if e.k = x.k then { e with born := x.born } :: es else x :: lays es e

theorem same_bits : ∀ (n : Nat) (l : List Int), ((l.map (Value.int .u8)).zip (l.map (Value.int .u8))).all (fun p => Instr.sameBits n p.1 p.2) = true
  | _, [] => rfl
  | n, x :: l => by
    simp only [List.map_cons, List.zip_cons_cons, List.all_cons, same_bits n l, Bool.and_true]
    unfold Instr.sameBits
    simp
theorem same_dv (d : List Int) : Instr.sameBits 10000 (dv d) (dv d) = true := by
  unfold dv
  unfold Instr.sameBits
  simp [same_bits]

theorem ents_modify : ∀ (es : List En) (e : En) (i : Nat) (p : Nat × Value), lookI es e.k i = some p → ∃ j, p.1 = i + j ∧ j < es.length ∧ (es.map En.ent).toArray.modify j (fun x => { x with key := dv e.k, val := e.val }) = ((lays es e).map En.ent).toArray ∧ ((es.map En.ent).toArray[j]?).map (·.key) = some (dv e.k)
  | [], e, i, p, h => by cases h
  | x :: es, e, i, p, h => by
    unfold lookI at h
    by_cases hk : e.k = x.k
    · rw [if_pos hk] at h
      cases h
      refine ⟨0, rfl, by simp, ?_, by simp [En.ent, hk]⟩
      rw [lays, if_pos hk]
      apply Array.ext'
      simp [En.ent, En.val]
    · rw [if_neg hk] at h
      obtain ⟨j, h1, h2, h3, h4⟩ := ents_modify es e (i + 1) p h
      refine ⟨j + 1, by omega, by simp; omega, ?_, by simpa using h4⟩
      rw [lays, if_neg hk]
      apply Array.ext'
      have := congrArg Array.toList h3
      simp at this ⊢
      exact this
theorem ents_push : ∀ (es : List En) (e : En) (i : Nat), lookI es e.k i = none → (es.map En.ent).toArray.push e.ent = ((lays es e).map En.ent).toArray
  | [], e, i, _ => by simp [lays]
  | x :: es, e, i, h => by
    unfold lookI at h
    by_cases hk : e.k = x.k
    · rw [if_pos hk] at h; cases h
    · rw [if_neg hk] at h
      have := congrArg Array.toList (ents_push es e (i + 1) h)
      rw [lays, if_neg hk]
      apply Array.ext'
      simp at this ⊢
      exact this

/-- A block's object, written over. -/
def World.over (w : World) (r : Nat) (o : Obj) : World := { w with heap := w.heap.setIfInBounds r o }
theorem over_same (w : World) (r : Nat) (o : Obj) (h : r < w.heap.size) : (World.over w r o).heap[r]? = some o := by
  simp [World.over, h]
theorem kept_over (w : World) (r : Nat) (o : Obj) : Kept (fun k => k = r) w (World.over w r o) :=
  ⟨rfl, rfl, rfl, by simp [World.over], fun k _ hn => by
    show (w.heap.setIfInBounds r o)[k]? = _
    rw [Array.getElem?_setIfInBounds, if_neg (fun h => hn h.symm)]⟩

/-- Entries' stamps: below the clock, no two the same; nor two keys. -/
def Stampd (clock : Nat) (es : List En) : Prop := (∀ b ∈ es.map En.born, b < clock) ∧ (es.map En.born).Nodup ∧ (es.map En.k).Nodup
/-- How the clock goes on where something is laid under a key. -/
def Ticks (clock clock' : Nat) (es : List En) (d : List Int) : Prop := clock ≤ clock' ∧ (lookI es d 0 = none → clock < clock')
theorem lays_borns : ∀ (es : List En) (e : En) (i : Nat), (lookI es e.k i = none ∧ (lays es e).map En.born = es.map En.born ++ [e.born] ∧ (lays es e).map En.k = es.map En.k ++ [e.k] ∧ e.k ∉ es.map En.k) ∨ (lookI es e.k i ≠ none ∧ (lays es e).map En.born = es.map En.born ∧ (lays es e).map En.k = es.map En.k)
  | [], e, i => .inl ⟨rfl, rfl, rfl, by simp⟩
  | x :: es, e, i => by
    unfold lookI lays
    by_cases hk : e.k = x.k
    · rw [if_pos hk, if_pos hk]
      exact .inr ⟨by simp, rfl, by rw [List.map_cons, List.map_cons, ← hk]⟩
    · rw [if_neg hk, if_neg hk]
      rcases lays_borns es e (i + 1) with ⟨h1, h2, h3, h4⟩ | ⟨h1, h2, h3⟩
      · exact .inl ⟨h1, by rw [List.map_cons, h2]; rfl, by rw [List.map_cons, h3]; rfl, by rw [List.map_cons, List.mem_cons]; exact fun h => h.elim hk h4⟩
      · exact .inr ⟨h1, by rw [List.map_cons, h2]; rfl, by rw [List.map_cons, h3]; rfl⟩
theorem nodup_snoc {α : Type} {l : List α} {x : α} (h : l.Nodup) (hx : x ∉ l) : (l ++ [x]).Nodup :=
  List.nodup_append.2 ⟨h, by simp, fun a ha b hb e => by rw [List.mem_singleton.1 hb] at e; exact hx (e ▸ ha)⟩
theorem lays_stampd {clock clock' : Nat} {es : List En} {e : En} (h : Stampd clock es) (ht : Ticks clock clock' es e.k) (hb : e.born = clock) : Stampd clock' (lays es e) := by
  unfold Stampd
  rcases lays_borns es e 0 with ⟨h1, h2, h3, h4⟩ | ⟨h1, h2, h3⟩
  · have h5 := ht.2 h1
    rw [h2, h3, hb]
    refine ⟨fun b hm => ?_, nodup_snoc h.2.1 (fun hm => by have := h.1 _ hm; omega), nodup_snoc h.2.2 h4⟩
    rcases List.mem_append.1 hm with hm | hm
    · exact Nat.lt_of_lt_of_le (h.1 b hm) ht.1
    · rw [List.mem_singleton.1 hm]; exact h5
  · rw [h2, h3]
    exact ⟨fun b hm => Nat.lt_of_lt_of_le (h.1 b hm) ht.1, h.2⟩
theorem run_lay (w : World) (r clock : Nat) (es : List En) (hb : w.heap[r]? = some (.map (es.map En.ent).toArray clock)) (h : ∀ e ∈ es, e.k.length = 32) (d : List Int) (hd : d.length = 32) (bv : Value) (xs : List Int) (st : Int) :
    ∃ clock', Ticks clock clock' es d ∧ (Instr.mapUpdate 59 (.map (some r)) (dv d) (.agg #[bv, .int .i64 st])).run Tryd.prog w = .ok () (World.over w r (.map ((lays es ⟨d, bv, xs, st, clock⟩).map En.ent).toArray clock')) := by
  unfold Instr.mapUpdate
  simp only [Sem.run_bind, run_underlying Tryd.underlying59, Result.andThen_ok, got hb, check_digest w _ 9998 d hd]
  rw [run_find w d hd es h]
  cases h1 : lookI es d 0 with
  | none =>
    refine ⟨clock + 1, ⟨Nat.le_succ _, fun _ => Nat.lt_succ_self _⟩, ?_⟩
    simp only [Result.andThen_ok]
    rw [set_got _ hb]
    have := ents_push es ⟨d, bv, xs, st, clock⟩ 0 h1
    rw [← this]
    rfl
  | some p =>
    obtain ⟨j, e1, e2, e3, e4⟩ := ents_modify es ⟨d, bv, xs, st, clock⟩ 0 p h1
    refine ⟨clock, ⟨Nat.le_refl _, fun h => by rw [h1] at h; cases h⟩, ?_⟩
    obtain ⟨i, v⟩ := p
    have hi : i = j := by simpa using e1
    subst hi
    simp only [Result.andThen_ok, Sem.run_bind]
    rw [e4]
    unfold Instr.keyThatStays
    simp only [Option.getD_some, same_dv, if_true, Sem.run_pure, Result.andThen_ok]
    rw [set_got _ hb]
    rw [← e3]
    rfl
end Go.Proofs.YtjdbmjkidljhpaaDoor

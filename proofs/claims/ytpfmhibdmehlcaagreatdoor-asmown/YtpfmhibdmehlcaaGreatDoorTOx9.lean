import Derived.WalkKit
import Derived.ProofKit
import Derived.MapKept
import Derived.Test.YtpfmhibdmehlcaaGreatDoorTOx8
import Derived.Lib.OthersKept
import Derived.Lib.SlBytesConst
namespace Go.Proofs.YtpfmhibdmehlcaaGreatDoor
open Go.RowKit
set_option linter.unusedVariables false
set_option linter.unusedSimpArgs false
structure Me (κ α : Type) where
 k : κ
 a : α
 born : Nat
structure Cod (κ α : Type) where
 enc : κ → Value
 val : α → Value
variable {κ α : Type} [DecidableEq κ]
def Cod.ent (c : Cod κ α) (e : Me κ α) : MapEntry := { key := c.enc e.k, val := c.val e.a, born := e.born }
structure Cod.Fits (c : Cod κ α) (P : Program) (t : TypeId) (z : Value) : Prop where
 ty : ∃ kt et d, P.underlying t = some (.map kt et) ∧ P.underlying kt = some d ∧ (∀ a b, Instr.sameNow d (c.enc a) (c.enc b) = some (decide (a = b))) ∧ (∀ a b n w, (Instr.checkKey b (n + 1) kt (c.enc a)).run P w = .ok () w) ∧ ∀ w, (zeroValue et).run P w = .ok z w
 bits : ∀ a, Instr.sameBits 10000 (c.enc a) (c.enc a) = true
def lookI (c : Cod κ α) : List (Me κ α) → κ → Nat → Option (Nat × Value)
 | [], _, _ => none
 | e :: es, d, i => if d = e.k then some (i, c.val e.a) else lookI c es d (i + 1)
def look : List (Me κ α) → κ → Option α
 | [], _ => none
 | e :: es, d => if d = e.k then some e.a else look es d
def lays : List (Me κ α) → κ → α → Nat → List (Me κ α)
 | [], d, a, b => [⟨d, a, b⟩]
 | x :: es, d, a, b => if d = x.k then ⟨d, a, x.born⟩ :: es else x :: lays es d a b
theorem gotm {P : Program} {w : World} {r : Nat} {es : Array MapEntry} {c : Nat} (hb : w.heap[r]? = some (.map es c)) : (getObj r).run P w = .ok (.map es c) w := by simp [getObj, Sem.run, hb]
theorem set_gotm {P : Program} {w : World} {r : Nat} {es : Array MapEntry} {c : Nat} (o' : Obj) (hb : w.heap[r]? = some (.map es c)) : (setObj r o').run P w = .ok () { w with heap := w.heap.setIfInBounds r o' } := by simp [setObj, Sem.run, hb]
theorem find_now (c : Cod κ α) (d : TypeDesc) (h : ∀ a b, Instr.sameNow d (c.enc a) (c.enc b) = some (decide (a = b))) (k : κ) : ∀ (es : List (Me κ α)) (i : Nat), Instr.findNow d (c.enc k) (es.map c.ent) i = some (lookI c es k i)
 | [], i => rfl
 | e :: es, i => by
  rw [List.map_cons]
  unfold Instr.findNow
  rw [show (c.ent e).key = c.enc e.k from rfl, h]
  by_cases hk : k = e.k
  ·simp only [hk, decide_true, lookI, if_true]
   rfl
  ·simp only [hk, decide_false, lookI, if_false]
   exact find_now c d h k es (i + 1)
theorem run_find {P : Program} (c : Cod κ α) (kt : TypeId) (d : TypeDesc) (hd : P.underlying kt = some d) (h : ∀ a b, Instr.sameNow d (c.enc a) (c.enc b) = some (decide (a = b))) (k : κ) (es : List (Me κ α)) (w : World) :
  (Instr.findKey kt (c.enc k) (es.map c.ent)).run P w = .ok (lookI c es k 0) w := by
 unfold Instr.findKey
 rw [Sem.run_bind, run_underlying hd, Result.andThen_ok, find_now c d h k es 0]
 rfl
theorem look_some (c : Cod κ α) : ∀ (es : List (Me κ α)) (d : κ) (i : Nat), (lookI c es d i).map (·.2) = (look es d).map c.val
 | [], _, _ => rfl
 | e :: es, d, i => by
  unfold lookI look
  split
  ·rfl
  ·exact look_some c es d (i + 1)
def lookV (c : Cod κ α) (z : Value) (es : List (Me κ α)) (d : κ) : Value := match look es d with | some a => c.val a | none => z
theorem run_look {P : Program} {c : Cod κ α} {t : TypeId} {z : Value} (H : c.Fits P t z) (w : World) (r clock : Nat) (es : List (Me κ α)) (hb : w.heap[r]? = some (.map (es.map c.ent).toArray clock)) (d : κ) (b : Bool) :
  (Instr.lookup t (.map (some r)) (c.enc d) b).run P w = .ok (if b then .tuple #[lookV c z es d, .bool (look es d).isSome] else lookV c z es d) w := by
 obtain ⟨kt, et, td, h1, h2, h3, h4, h5⟩ := H.ty
 unfold Instr.lookup
 simp only [Sem.run_bind, run_underlying h1, Result.andThen_ok, Sem.run_pure, gotm hb, h4 d _ 9999 w]
 rw [run_find c kt td h2 h3 d es w]
 have hl := look_some c es d 0
 unfold lookV
 cases e1 : lookI c es d 0 with
 | none =>
  rw [e1] at hl
  cases e2 : look es d with
  | none => simp only [Result.andThen_ok, Sem.run_bind, h5, Sem.run_pure, Option.isSome_none]
  | some e => rw [e2] at hl; cases hl
 | some p =>
  rw [e1] at hl
  cases e2 : look es d with
  | none => rw [e2] at hl; cases hl
  | some e =>
   rw [e2] at hl
   obtain ⟨i, v⟩ := p
   have hv : v = c.val e := by simpa using hl
   subst hv
   simp only [Result.andThen_ok, Sem.run_bind, Sem.run_pure, Option.isSome_some]
theorem ents_modify (c : Cod κ α) (d : κ) (a : α) (b : Nat) : ∀ (es : List (Me κ α)) (i : Nat) (p : Nat × Value), lookI c es d i = some p → ∃ j, p.1 = i + j ∧ j < es.length ∧ (es.map c.ent).toArray.modify j (fun x => { x with key := c.enc d, val := c.val a }) = ((lays es d a b).map c.ent).toArray ∧ ((es.map c.ent).toArray[j]?).map (·.key) = some (c.enc d)
 | [], i, p, h => by cases h
 | x :: es, i, p, h => by
  unfold lookI at h
  by_cases hk : d = x.k
  ·rw [if_pos hk] at h
   cases h
   refine ⟨0, rfl, by simp, ?_, by simp [Cod.ent, hk]⟩
   rw [lays, if_pos hk]
   apply Array.ext'
   simp [Cod.ent]
  ·rw [if_neg hk] at h
   obtain ⟨j, h1, h2, h3, h4⟩ := ents_modify c d a b es (i + 1) p h
   refine ⟨j + 1, by omega, by simp; omega, ?_, by simpa using h4⟩
   rw [lays, if_neg hk]
   apply Array.ext'
   have := congrArg Array.toList h3
   simp at this ⊢
   exact this
theorem ents_push (c : Cod κ α) (d : κ) (a : α) (b : Nat) : ∀ (es : List (Me κ α)) (i : Nat), lookI c es d i = none → (es.map c.ent).toArray.push { key := c.enc d, val := c.val a, born := b } = ((lays es d a b).map c.ent).toArray
 | [], i, _ => by simp [lays, Cod.ent]
 | x :: es, i, h => by
  unfold lookI at h
  by_cases hk : d = x.k
  ·rw [if_pos hk] at h; cases h
  ·rw [if_neg hk] at h
   have := congrArg Array.toList (ents_push c d a b es (i + 1) h)
   rw [lays, if_neg hk]
   apply Array.ext'
   simp at this ⊢
   exact this
def World.over (w : World) (r : Nat) (o : Obj) : World := { w with heap := w.heap.setIfInBounds r o }
theorem over_same (w : World) (r : Nat) (o : Obj) (h : r < w.heap.size) : (World.over w r o).heap[r]? = some o := by
 simp [World.over, h]
theorem run_lay {P : Program} {c : Cod κ α} {t : TypeId} {z : Value} (H : c.Fits P t z) (w : World) (r clock : Nat) (es : List (Me κ α)) (hb : w.heap[r]? = some (.map (es.map c.ent).toArray clock)) (d : κ) (a : α) :
  ∃ clock', (Instr.mapUpdate t (.map (some r)) (c.enc d) (c.val a)).run P w = .ok () (World.over w r (.map ((lays es d a clock).map c.ent).toArray clock')) := by
 obtain ⟨kt, et, td, h1, h2, h3, h4, h5⟩ := H.ty
 unfold Instr.mapUpdate
 simp only [Sem.run_bind, run_underlying h1, Result.andThen_ok, gotm hb, h4 d _ 9999 w]
 rw [run_find c kt td h2 h3 d es w]
 cases e1 : lookI c es d 0 with
 | none =>
  refine ⟨clock + 1, ?_⟩
  simp only [Result.andThen_ok]
  rw [set_gotm _ hb, ents_push c d a clock es 0 e1]
  rfl
 | some p =>
  obtain ⟨j, i1, i2, i3, i4⟩ := ents_modify c d a clock es 0 p e1
  refine ⟨clock, ?_⟩
  obtain ⟨i, v⟩ := p
  have hi : i = j := by simpa using i1
  subst hi
  simp only [Result.andThen_ok, Sem.run_bind]
  rw [i4]
  unfold Instr.keyThatStays
  simp only [Option.getD_some, H.bits, if_true, Sem.run_pure, Result.andThen_ok]
  rw [set_gotm _ hb, i3]
  rfl
theorem look_lays : ∀ (es : List (Me κ α)) (d : κ) (a : α) (b : Nat) (d' : κ), look (lays es d a b) d' = if d' = d then some a else look es d'
 | [], d, a, b, d' => rfl
 | x :: es, d, a, b, d' => by
  rw [lays]
  by_cases hk : d = x.k
  ·rw [if_pos hk, look, look]
   by_cases h : d' = d
   ·rw [if_pos h, if_pos h]
   ·rw [if_neg h, if_neg h, if_neg (fun e => h (e.trans hk.symm))]
  ·rw [if_neg hk, look, look, look_lays es d a b d']
   by_cases h : d' = x.k
   ·rw [if_pos h, if_pos h, if_neg (fun e => hk (e.symm.trans h))]
   ·rw [if_neg h, if_neg h]
end Go.Proofs.YtpfmhibdmehlcaaGreatDoor
namespace Go.Proofs.YtpfmhibdmehlcaaGreatDoor
open Go.RowKit
set_option linter.unusedVariables false
set_option linter.unusedSimpArgs false
set_option maxRecDepth 100000
theorem strB_eq (a b : List UInt8) : ((⟨a.toArray⟩ : ByteArray) == ⟨b.toArray⟩) = decide (a = b) := by
 have h := Go.MapKept.bytes_beq (⟨a.toArray⟩ : ByteArray) ⟨b.toArray⟩
 by_cases e : a = b
 ·rw [decide_eq_true e, h, e]
 ·rw [decide_eq_false e]
  cases hb : ((⟨a.toArray⟩ : ByteArray) == ⟨b.toArray⟩) with
  | false => rfl
  | true =>
   rw [h] at hb
   injection hb with hb
   exact absurd (List.toArray_inj hb) e
theorem check9 (w : World) (b : Bool) (n : Nat) (x : ByteArray) : (Instr.checkKey b (n + 1) 9 (.string x)).run Tryz.prog w = .ok () w := by
 unfold Instr.checkKey
 simp [run_underlying Tryz.underlying9, Sem.run_pure]
theorem bits9 (x : ByteArray) : Instr.sameBits 10000 (.string x) (.string x) = true := by
 have h := Go.MapKept.bytes_beq x x
 unfold Instr.sameBits
 first | exact h.2 rfl | simp [h]
def cN : Cod (List UInt8) Int := ⟨fun l => .string ⟨l.toArray⟩, .int .i64⟩
theorem fitsN : cN.Fits Tryz.prog 89 (.int .i64 0) :=
 ⟨⟨9, 3, _, Tryz.underlying89, Tryz.underlying9, fun a b => by show some (_ == _) = _; rw [strB_eq], fun a b n w => check9 w b n _, fun w => by kernel_rfl⟩, fun a => bits9 _⟩
theorem kept_over (w : World) (r : Nat) (o : Obj) : Kept (fun k => k = r) w (World.over w r o) :=
 ⟨rfl, rfl, rfl, by simp [World.over], fun k _ hn => by
  show (w.heap.setIfInBounds r o)[k]? = _
  rw [Array.getElem?_setIfInBounds, if_neg (fun h => hn h.symm)]⟩
theorem aeInfo54 : (Tryz.prog.info? 51).map (fun i => (i.zero, i.size, i.bytes)) = some (some (.agg #[.int .i64 0, .int .i64 0, .int .i64 0, .slice none 0 0]), 4, 48) := by kernel_rfl
theorem push_func {w0 W : World} {v : Value} {k : Nat} {xs : List Value} (h : W.ownsRow w0.heap.size 51 4 v k xs) (x0 x1 x2 x3 : Value) (h0 : x0.oneCell' = true) (h1 : x1.oneCell' = true) (h2 : x2.oneCell' = true) (h3 : x3.oneCell' = true) (hk : Kept (fun _ => False) w0 W) (hl : k ≤ 90000) :
  ∃ v' w', (Builtin.append_ #[23, 23] 23 #[v, .slice (some ⟨W.heap.size, 0, none⟩) 1 1]).run Tryz.prog (W.alloc (.cells #[x0, x1, x2, x3] 51)) = .ok v' w' ∧ w'.ownsRow w0.heap.size 51 4 v' (k + 1) (xs ++ [x0, x1, x2, x3]) ∧ Kept (fun _ => False) w0 w' ∧ Kept (fun q => v.ownBlock = some q) W w' ∧ NewB W v v' := by
 obtain ⟨i0, hi, hz0, hz1, hz2⟩ := info_parts aeInfo54
 obtain ⟨v', w', hr, h2', h3', h4, _⟩ := append_old (P := Tryz.prog) (W.alloc (.cells #[x0, x1, x2, x3] 51)) w0.heap.size 23 23 51 i0 _ 4 48 Tryz.underlying23 hi hz0 hz1 hz2 rfl (by decide) v k xs (h.alloc _) ⟨W.heap.size, 0, none⟩ 1 1 [x0, x1, x2, x3] (by simp) (fun j u hj => by
  have hjl := (List.getElem?_eq_some_iff.1 hj).1
  rw [Addr.add_lit, Nat.zero_add, cell_block _ _ _ _ _ _ (heap_alloc_new W _)]
  simpa using hj) (fun u hu => by
   simp at hu
   rcases hu with rfl | rfl | rfl | rfl <;> assumption) (by unfold maxLen; omega) (by omega) (by have := hk.size; simp; omega)
 have hk1 : Kept (fun k => v.ownBlock = some k) W w' := ((Kept.refl _ W).alloc _).grown h3' (fun k hk => .inr hk)
 exact ⟨v', w', hr, h2', hk.step hk1 (fun i hi e => by have := (h.lt i e).1; omega), hk1, by simpa [NewB] using h4⟩
theorem aeInfo57 : (Tryz.prog.info? 89).map (fun i => (i.zero, i.size, i.bytes)) = some (some (.map none), 1, 8) := by kernel_rfl
theorem push_map {w0 W : World} {v : Value} {k : Nat} {xs : List Value} (h : W.ownsRow w0.heap.size 89 1 v k xs) (x0 : Value) (h0 : x0.oneCell' = true) (hk : Kept (fun _ => False) w0 W) (hl : k ≤ 90000) :
  ∃ v' w', (Builtin.append_ #[90, 90] 90 #[v, .slice (some ⟨W.heap.size, 0, none⟩) 1 1]).run Tryz.prog (W.alloc (.cells #[x0] 89)) = .ok v' w' ∧ w'.ownsRow w0.heap.size 89 1 v' (k + 1) (xs ++ [x0]) ∧ Kept (fun _ => False) w0 w' ∧ Kept (fun q => v.ownBlock = some q) W w' ∧ NewB W v v' := by
 obtain ⟨i0, hi, hz0, hz1, hz2⟩ := info_parts aeInfo57
 obtain ⟨v', w', hr, h2', h3', h4, _⟩ := append_old (P := Tryz.prog) (W.alloc (.cells #[x0] 89)) w0.heap.size 90 90 89 i0 _ 1 8 Tryz.underlying90 hi hz0 hz1 hz2 rfl (by decide) v k xs (h.alloc _) ⟨W.heap.size, 0, none⟩ 1 1 [x0] (by simp) (fun j u hj => by
  have hjl := (List.getElem?_eq_some_iff.1 hj).1
  rw [Addr.add_lit, Nat.zero_add, cell_block _ _ _ _ _ _ (heap_alloc_new W _)]
  simpa using hj) (fun u hu => by
   simp at hu
   subst hu; exact h0) (by unfold maxLen; omega) (by omega) (by have := hk.size; simp; omega)
 have hk1 : Kept (fun k => v.ownBlock = some k) W w' := ((Kept.refl _ W).alloc _).grown h3' (fun k hk => .inr hk)
 exact ⟨v', w', hr, h2', hk.step hk1 (fun i hi e => by have := (h.lt i e).1; omega), hk1, by simpa [NewB] using h4⟩
theorem aeInfo51 : (Tryz.prog.info? 48).map (fun i => (i.zero, i.size, i.bytes)) = some (some (.agg #[.int .i64 0, .int .i64 0]), 2, 16) := by kernel_rfl
theorem push_ins {w0 W : World} {v : Value} {k : Nat} {xs : List Value} (h : W.ownsRow w0.heap.size 48 2 v k xs) (x0 x1 : Value) (h0 : x0.oneCell' = true) (h1 : x1.oneCell' = true) (hk : Kept (fun _ => False) w0 W) (hl : k ≤ 90000) :
  ∃ v' w', (Builtin.append_ #[49, 49] 49 #[v, .slice (some ⟨W.heap.size, 0, none⟩) 1 1]).run Tryz.prog (W.alloc (.cells #[x0, x1] 48)) = .ok v' w' ∧ w'.ownsRow w0.heap.size 48 2 v' (k + 1) (xs ++ [x0, x1]) ∧ Kept (fun _ => False) w0 w' ∧ Kept (fun q => v.ownBlock = some q) W w' ∧ NewB W v v' := by
 obtain ⟨i0, hi, hz0, hz1, hz2⟩ := info_parts aeInfo51
 obtain ⟨v', w', hr, h2', h3', h4, _⟩ := append_old (P := Tryz.prog) (W.alloc (.cells #[x0, x1] 48)) w0.heap.size 49 49 48 i0 _ 2 16 Tryz.underlying49 hi hz0 hz1 hz2 rfl (by decide) v k xs (h.alloc _) ⟨W.heap.size, 0, none⟩ 1 1 [x0, x1] (by simp) (fun j u hj => by
  have hjl := (List.getElem?_eq_some_iff.1 hj).1
  rw [Addr.add_lit, Nat.zero_add, cell_block _ _ _ _ _ _ (heap_alloc_new W _)]
  simpa using hj) (fun u hu => by
   simp at hu
   rcases hu with rfl | rfl <;> assumption) (by unfold maxLen; omega) (by omega) (by have := hk.size; simp; omega)
 have hk1 : Kept (fun k => v.ownBlock = some k) W w' := ((Kept.refl _ W).alloc _).grown h3' (fun k hk => .inr hk)
 exact ⟨v', w', hr, h2', hk.step hk1 (fun i hi e => by have := (h.lt i e).1; omega), hk1, by simpa [NewB] using h4⟩
theorem look7 {w : World} {g : Nat} {t : TypeId} {a0 a1 a2 a3 a4 a5 a6 : Value} (h : w.heap[g]? = some (.cells #[a0, a1, a2, a3, a4, a5, a6] t (0, 0))) : w.cell? ⟨g, 0, none⟩ = some a0 ∧ w.cell? ⟨g, 1, none⟩ = some a1 ∧ w.cell? ⟨g, 2, none⟩ = some a2 ∧ w.cell? ⟨g, 3, none⟩ = some a3 ∧ w.cell? ⟨g, 4, none⟩ = some a4 ∧ w.cell? ⟨g, 5, none⟩ = some a5 ∧ w.cell? ⟨g, 6, none⟩ = some a6 ∧ w.frozen? ⟨g, 2, none⟩ = false ∧ w.frozen? ⟨g, 5, none⟩ = false :=
 ⟨cell_block _ _ 0 _ _ _ h, cell_block _ _ 1 _ _ _ h, cell_block _ _ 2 _ _ _ h, cell_block _ _ 3 _ _ _ h, cell_block _ _ 4 _ _ _ h, cell_block _ _ 5 _ _ _ h, cell_block _ _ 6 _ _ _ h, frozen_block _ _ 2 _ _ h, frozen_block _ _ 5 _ _ h⟩
set_option maxHeartbeats 4000000 in
theorem named_any (L : List Sh) (g t : Nat) (s : ByteArray) (w : World) (hg : w.heap[g]? = some (.cells (tcells L).toArray t (0, 0))) (hL : L.length ≤ 46) :
  Calls Tryz.prog 130 #[.slice (some ⟨g, 0, none⟩) L.length L.length, .string s] w fun e w' => e = .returned (namedV L s) ∧ Kept (fun _ => False) w w' := by
 have HG : Hid (∀ (wr : World) (k : Nat), Kept (fun _ => False) w wr → k < L.length → wr.rangeAt g (k * 4) (L.getD k Sh.none).cells) := fun wr k hk hl =>
  tab_range ((hk.block g (Array.getElem?_eq_some_iff.1 hg).1 id).trans hg) hl
 clear hg
 obtain ⟨N, hn⟩ : ∃ N, L.length = N := ⟨_, rfl⟩
 rw [hn]
 rw [hn] at hL
 have HN2 := hid_of hn
 clear hn
 go_enter Tryz.func130, Tryz.ntmps130
 go_wp2
 go_loopw [10] (fun i wr => ∃ k : Nat, k ≤ N ∧ i = .int .i64 (k : Int) ∧ (∀ j, j < k → (L.getD j Sh.none).nm ≠ s) ∧ Kept (fun _ => False) w wr) (fun i _ => N - (intOf i).toNat)
 case atStart => exact ⟨0, by omega, rfl, fun j hj => absurd hj (by omega), Kept.refl _ _⟩
 case round =>
  obtain ⟨k, hk, rfl, hno, hKe⟩ := hrel
  by_cases hlt : k < N
  ·have hr := HG.out wr k hKe (by rw [HN2.out]; exact hlt)
   have HAT : Hid ((L.getD k Sh.none).nm = s → namedV L s = .tuple #[.int .i64 (k : Nat), .bool true]) := fun h => named_at (by rw [HN2.out]; exact hlt) hno h
   have HNO := hid_of hno
   generalize hx : L.getD k Sh.none = x at *
   have HX := hid_of hx
   have HK := hid_of (hKe.alloc (.cells x.cells.toArray 147))
   have hki : (k : Int) < (N : Int) := by omega
   clear hno hKe hx
   obtain ⟨nm, o, ta, gi⟩ := x
   go_wp2_with (refine wpList_load_mid rfl 147 _ rfl g (k * 4) rfl [.string nm, .int .i64 o, .int .i64 ta, .int .i64 gi] _ hr Tryz.underlying147 rfl size24 ?_)
   ·have HQ := hid_of (HAT.out (txt_eq (by assumption)))
    go_ret2
    exact ⟨congrArg Ending.returned HQ.out.symm, HK.out⟩
   ·rename_i hne
    refine ⟨⟨k + 1, by omega, by go_num, fun j hj => ?_, HK.out⟩, by simp [intOf]; omega⟩
    by_cases e : j = k
    ·subst e
     rw [HX.out]
     exact txt_ne hne
    ·exact HNO.out j (by omega)
  ·obtain rfl : k = N := by omega
   have HK := hid_of hKe
   have HV := hid_of (named_none (L := L) (s := s) (by rw [HN2.out]; exact hno))
   clear hKe hno
   go_wp2
   go_ret2
   exact ⟨congrArg Ending.returned HV.out.symm, HK.out⟩
set_option maxHeartbeats 4000000 in
theorem byname_any (s : ByteArray) (w : World) :
  Calls Tryz.prog 102 #[.string s] w fun e w' => e = .returned (namedV insL s) ∧ Kept (fun _ => False) w w' := by
 go_enter Tryz.func102, Tryz.ntmps102
 go_wp2_with fail
 refine (ins_any _).mono ?_
 rintro e w1 ⟨rfl, hk1⟩
 have HK1 := hid_of hk1
 clear hk1
 obtain ⟨hO, hX, hK⟩ := new_row w1 z57 (tcells insL).toArray 165
 go_upto_region 2 with (first | refine wpList_to rfl (some 4) rfl (.pointer (some ⟨w1.heap.size, 0, none⟩)) (w1.alloc (.cells z57 165)) (by kernel_rfl) ?_ | refine wpList_store_row rfl 165 _ _ rfl w1.heap.size (tcells insL).toArray rfl rfl 165 _ hO size57 (by kernel_rfl) one57 ?_)
 clear hO
 generalize (w1.alloc (.cells z57 165)).setRow w1.heap.size (tcells insL).toArray = w2 at *
 have HK2 := hid_of (HK1.out.trans hK)
 have HR := hid_of (named_any insL w1.heap.size 165 s w2 hX (by decide))
 clear hK HK1
 go_wp2_with fail
 refine HR.out.mono ?_
 rintro e w3 ⟨rfl, hk3⟩
 have HK3 := hid_of (HK2.out.trans hk3)
 clear hk3 HR HK2 hX
 by_cases h : nameIx insL s < insL.length
 ·have HV := hid_of (show namedV insL s = _ from if_pos h)
  rw [HV.out]
  generalize nameIx insL s = k at *
  clear h
  go_wp2
  go_ret2
  exact ⟨congrArg Ending.returned HV.out.symm, HK3.out⟩
 ·have HV := hid_of (show namedV insL s = _ from if_neg h)
  rw [HV.out]
  clear h
  go_wp2
  go_ret2
  exact ⟨congrArg Ending.returned HV.out.symm, HK3.out⟩
def retB : ByteArray := ⟨#[114, 101, 116]⟩
theorem results_rowtt {P : Program} {fn : Func} {p u r : Tmp} {ty : TypeId} (h : fn.results = #[.cell p ty, .tmp u, .tmp r]) (tmps : Array Value) (w : World) (g : Nat) (t : TypeId) (cs : Array Value) (fr : Nat × Nat) (d : TypeDesc) (x y : Value)
  (hp : tmps.getD p undef = .pointer (some ⟨g, 0, none⟩)) (hx : tmps.getD u undef = x) (hy : tmps.getD r undef = y) (hg : w.heap[g]? = some (.cells cs t fr)) (hu : P.underlying ty = some d) (hd : (match d with | .struct _ | .array _ _ => true | _ => false) = true) (hi : (P.info? ty).map (·.size) = some cs.size) :
  (results fn tmps).run P w = .ok (.tuple #[.agg cs, x, y]) w := by
 have hp' : tmps[p]?.getD undef = .pointer (some ⟨g, 0, none⟩) := by simpa using hp
 have hx' : tmps[u]?.getD undef = x := by simpa using hx
 have hy' : tmps[r]?.getD undef = y := by simpa using hy
 simp [results, h, hp', hx', hy', asAddr, run_loadVar_row w g t ty cs fr d hg hu hd hi]
theorem size51' : (Tryz.prog.info? 48).map (·.size) = some 2 := by kernel_rfl
theorem look2 {w : World} {g : Nat} {t : TypeId} {a b : Value} (h : w.heap[g]? = some (.cells #[a, b] t (0, 0))) : w.cell? ⟨g, 0, none⟩ = some a ∧ w.cell? ⟨g, 1, none⟩ = some b ∧ w.frozen? ⟨g, 0, none⟩ = false ∧ w.frozen? ⟨g, 1, none⟩ = false :=
 ⟨cell_block _ _ 0 _ _ _ h, cell_block _ _ 1 _ _ _ h, frozen_block _ _ 0 _ _ h, frozen_block _ _ 1 _ _ h⟩
attribute [irreducible] retB
abbrev srcB : ByteArray := ⟨#[102, 117, 110, 99, 32, 109, 97, 105, 110, 32, 48, 32, 48, 32, 49, 10, 114, 101, 116]⟩
abbrev nlB : ByteArray := ⟨#[10]⟩
def p1 : PG := ⟨0, [], [⟨0, 0, 1, [⟨18, 0⟩]⟩]⟩
theorem p1_ok : p1.Ok := by
 refine ⟨by decide, ⟨by simp [p1], by simp [p1]⟩, fun f hf => ?_, by decide⟩
 simp [p1] at hf
 subst hf
 exact ⟨by decide, by decide, by decide, fun y hy => by simp at hy; subst hy; exact ⟨by decide, by decide⟩, by decide⟩
theorem p1_check : checkP p1 = 0 := by kernel_rfl
theorem size37 : (Tryz.prog.info? 25).map (·.size) = some 3 := by kernel_rfl
def Pg1 (w : World) (B : Nat) (fv : Value) : Prop := ∃ cv, w.ownsRow B 51 4 fv 1 [.int .i64 0, .int .i64 0, .int .i64 1, cv] ∧ w.ownsRow B 48 2 cv 1 [.int .i64 18, .int .i64 0]
theorem Pg1.put {w w' : World} {B p0 : Nat} {fv : Value} {cs : Array Value} (h : Pg1 w B fv) (hp : w.heap[p0]? = some (.cells cs 25 (0, 0))) (hk : Kept (fun q => q = p0) w w') : Pg1 w' B fv := by
 obtain ⟨cv, h1, h2⟩ := h
 exact ⟨cv, hk.ownsRow h1 (fun q hq e => own_box2 h1 hp (by decide) (by rw [hq, e])), hk.ownsRow h2 (fun q hq e => own_box2 h2 hp (by decide) (by rw [hq, e]))⟩
theorem oth5_of {w w' : World} {B n : Nat} {v : Value} {xs : List Value} (h : w.ownsRow B 5 1 v n xs) (hk : Kept (fun q => v.ownBlock = some q) w w') : Lib.OthersKept 5 none w w' := fun k o hk' _ hn => box_kept hk hk' (fun e => by
 rcases h.2 with ⟨rfl, _⟩ | ⟨g, cap, cur, rfl, _, hgg, _⟩
 ·cases e
 ·obtain rfl : g = k := by simpa [Value.ownBlock] using e
  rw [hgg] at hk'
  cases hk'
  exact hn _ _ rfl)
theorem oth5_kept {w w' : World} (hk : Kept (fun _ => False) w w') : Lib.OthersKept 5 none w w' := fun k o hk' _ _ => box_kept hk hk' id
theorem Oth5.box {w w' : World} {g t : Nat} {cs : Array Value} {f : Nat × Nat} (h : Lib.OthersKept 5 none w w') (hb : w.heap[g]? = some (.cells cs t f)) (ht : t ≠ 5) : w'.heap[g]? = some (.cells cs t f) := h g _ hb (by simp) (fun c fz e => by cases e; exact ht rfl)
theorem Gl.tab5 {w : World} (h : Gl w) {B : Nat} (hB : 8 ≤ B) : Lib.TabBelow Tryz.prog B w "internal/strconv.uint64pow10" .u64 Lib.pow10Tab := fun w' hb => by
 unfold Lib.TabIs
 rw [var_block pow_named (hb.block 2 (by omega))]
 exact h.tab
theorem bel_kept {w0 w w' : World} (h : Kept (fun _ => False) w0 w) (hb : Below w0.heap.size w w') : Kept (fun _ => False) w0 w' := h.step (kept_of_below hb) (fun i hi e => by omega)
structure Bs (w0 w1 wr : World) (ao : Option Addr) (m c : Nat) (zs : List Value) : Prop where
 own : wr.ownsRow w0.heap.size 5 1 (.slice ao m c) m zs
 kept : Kept (fun _ => False) w0 wr
 oth : Lib.OthersKept 5 none w1 wr
theorem Bs.len {w0 w1 wr : World} {ao : Option Addr} {m c : Nat} {zs : List Value} (h : Bs w0 w1 wr ao m c zs) : m = zs.length := by have := h.own.1; omega
theorem Bs.same {w0 w1 wr w' : World} {ao : Option Addr} {m c : Nat} {zs : List Value} (h : Bs w0 w1 wr ao m c zs) (hk : Kept (fun _ => False) wr w') : Bs w0 w1 w' ao m c zs := ⟨hk.ownsRow h.own (fun _ _ f => f), h.kept.trans hk, h.oth.trans (oth5_kept hk)⟩
theorem Bs.gl {w0 w1 wr : World} {ao : Option Addr} {m c : Nat} {zs : List Value} (h : Bs w0 w1 wr ao m c zs) (hG : Gl w0) : Gl wr := hG.same h.kept
abbrev memY : List Value := [.int .u8 109, .int .u8 101, .int .u8 109, .int .u8 111, .int .u8 114, .int .u8 121]
abbrev memC : Array Value := #[.int .u8 109, .int .u8 101, .int .u8 109, .int .u8 111, .int .u8 114, .int .u8 121]
theorem own_new (w0 W : World) (hk : Kept (fun _ => False) w0 W) : (W.alloc (.cells memC 5)).ownsRow w0.heap.size 5 1 (.slice (some ⟨W.heap.size, 0, none⟩) 6 6) 6 memY :=
 ⟨rfl, .inr ⟨W.heap.size, 6, _, rfl, hk.size, heap_alloc_new W _, Nat.le_refl _, by decide, rfl, rfl⟩⟩
theorem own_at_block {w w' : World} {B e s n : Nat} {v : Value} {xs : List Value} (h : w.ownsRow B e s v n xs) (hb : ∀ g, v.ownBlock = some g → w'.heap[g]? = w.heap[g]?) : w'.ownsRow B e s v n xs := by
 refine ⟨h.1, ?_⟩
 rcases h.2 with hh | ⟨g, cap, cur, rfl, hbg, hgg, rest⟩
 ·exact .inl hh
 ·exact .inr ⟨g, cap, cur, rfl, hbg, (hb g rfl).trans hgg, rest⟩
theorem push_first (w0 wa : World) (hk : Kept (fun _ => False) w0 wa) (x : Int) :
  ∃ ao' m' c' w', (Builtin.append_ #[22, 22] 22 #[.slice (some ⟨wa.heap.size, 0, none⟩) 6 6, .slice (some ⟨wa.heap.size + 1, 0, none⟩) 1 1]).run Tryz.prog ((wa.alloc (.cells memC 5 (6, 7))).alloc (.cells #[.int .u8 x] 5)) = .ok (.slice ao' m' c') w' ∧ w'.ownsRow w0.heap.size 5 1 (.slice ao' m' c') m' (memY ++ [.int .u8 x]) ∧ Kept (fun _ => False) wa w' := by
 obtain ⟨i0, hi, hz0, hz1, hz2⟩ := info_parts Tryz.info5
 have hsu : (wa.alloc (.cells memC 5)).heap.size = wa.heap.size + 1 := by simp
 obtain ⟨v', wu, hr, ho, hk0, hk1, hn⟩ := push_byte (own_new w0 wa hk) (.int .u8 x) rfl (hk.trans ((Kept.refl _ _).alloc _)) (by omega)
 rw [hsu] at hr
 have hg := fun (W : World) (h1 : ∀ j v, memY[j]? = some v → W.cell? ((⟨wa.heap.size, 0, none⟩ : Addr).add j) = some v) (h2 : ∀ j v, [Value.int .u8 x][j]? = some v → W.cell? ((⟨wa.heap.size + 1, 0, none⟩ : Addr).add j) = some v) =>
  run_append_grow (P := Tryz.prog) W 22 22 5 i0 (.int .u8 0) Tryz.underlying22 hi hz0 ⟨wa.heap.size, 0, none⟩ 6 6 memY (by rw [hz1]; rfl) h1 ⟨wa.heap.size + 1, 0, none⟩ 1 1 [.int .u8 x] (by rw [hz1]; rfl) h2 (by omega) (by decide) (growslice_fits (by decide) (by rw [hz2]; decide))
 have cells : ∀ f : Nat × Nat, (∀ j v, memY[j]? = some v → ((wa.alloc (.cells memC 5 f)).alloc (.cells #[.int .u8 x] 5)).cell? ((⟨wa.heap.size, 0, none⟩ : Addr).add j) = some v) ∧ (∀ j v, [Value.int .u8 x][j]? = some v → ((wa.alloc (.cells memC 5 f)).alloc (.cells #[.int .u8 x] 5)).cell? ((⟨wa.heap.size + 1, 0, none⟩ : Addr).add j) = some v) := fun f => by
  have hsz : (wa.alloc (.cells memC 5 f)).heap.size = wa.heap.size + 1 := by simp
  have ha : ((wa.alloc (.cells memC 5 f)).alloc (.cells #[.int .u8 x] 5)).heap[wa.heap.size]? = some (.cells memC 5 f) := by
   rw [heap_alloc_old _ _ (by simp)]
   exact heap_alloc_new wa _
  have hb : ((wa.alloc (.cells memC 5 f)).alloc (.cells #[.int .u8 x] 5)).heap[wa.heap.size + 1]? = some (.cells #[.int .u8 x] 5) := hsz ▸ heap_alloc_new _ _
  refine ⟨fun j v hj => ?_, fun j v hj => ?_⟩
  ·rw [Addr.add_lit, Nat.zero_add, cell_block _ _ _ _ _ _ ha]
   simpa using hj
  ·rw [Addr.add_lit, Nat.zero_add, cell_block _ _ _ _ _ _ hb]
   simpa using hj
 have hu := hg _ (cells (0, 0)).1 (cells (0, 0)).2
 have hm := hg _ (cells (6, 7)).1 (cells (6, 7)).2
 rw [hu] at hr
 injection hr with e1 e2
 subst e1 e2
 have ec : grownCap ((wa.alloc (.cells memC 5 (6, 7))).alloc (.cells #[.int .u8 x] 5)) (6 + 1) 6 5 = grownCap ((wa.alloc (.cells memC 5)).alloc (.cells #[.int .u8 x] 5)) (6 + 1) 6 5 := rfl
 have es1 : ((wa.alloc (.cells memC 5)).alloc (.cells #[.int .u8 x] 5)).heap.size = wa.heap.size + 2 := by simp
 have es2 : ((wa.alloc (.cells memC 5 (6, 7))).alloc (.cells #[.int .u8 x] 5)).heap.size = wa.heap.size + 2 := by simp
 refine ⟨_, _, _, _, hm, ?_, (((Kept.refl (fun _ => False) wa).alloc _).alloc _).drew.alloc _⟩
 rw [ec, es2]
 rw [es1] at ho
 refine own_at_block ho (fun g hg' => ?_)
 have eg : g = wa.heap.size + 2 := by simpa [Value.ownBlock] using hg'.symm
 subst eg
 have n1 := heap_alloc_new ((wa.alloc (.cells memC 5 (6, 7))).alloc (.cells #[.int .u8 x] 5)).drew (.cells (memY.toArray ++ [Value.int .u8 x].toArray ++ Builtin.zeroCells (Value.int .u8 0).cells (grownCap ((wa.alloc (.cells memC 5)).alloc (.cells #[.int .u8 x] 5)) (6 + 1) 6 5 - (6 + 1))) 5)
 have n2 := heap_alloc_new ((wa.alloc (.cells memC 5)).alloc (.cells #[.int .u8 x] 5)).drew (.cells (memY.toArray ++ [Value.int .u8 x].toArray ++ Builtin.zeroCells (Value.int .u8 0).cells (grownCap ((wa.alloc (.cells memC 5)).alloc (.cells #[.int .u8 x] 5)) (6 + 1) 6 5 - (6 + 1))) 5)
 rw [show ((wa.alloc (.cells memC 5 (6, 7))).alloc (.cells #[.int .u8 x] 5)).drew.heap.size = wa.heap.size + 2 from es2] at n1
 rw [show ((wa.alloc (.cells memC 5)).alloc (.cells #[.int .u8 x] 5)).drew.heap.size = wa.heap.size + 2 from es1] at n2
 exact n1.trans n2.symm
end Go.Proofs.YtpfmhibdmehlcaaGreatDoor

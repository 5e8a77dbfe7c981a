import Derived.WalkKit
import Derived.ProofKit
import Derived.MapKept
import Derived.Test.YtgoabnehdmdikaaGreatDoorTLg6
import Derived.Lib.OthersKept
import Derived.Lib.SlBytesConst
import Derived.Laws.BitsAllLaws
set_option linter.unusedVariables false
set_option linter.unusedSimpArgs false
set_option maxRecDepth 100000
set_option maxHeartbeats 64000000
namespace Go.Proofs.YtgoabnehdmdikaaGreatDoor
open Go.RowKit
structure Me (κ α : Type) where
 k : κ
 a : α
 born : Nat
structure Cod (κ α : Type) where
 enc : κ → Value
 val : α → Value
variable {κ α : Type} [DecidableEq κ]
def Cod.ent (c : Cod κ α) (e : Me κ α) : MapEntry := { key := c.enc e.k, val := c.val e.a, born := e.born }
structure Cod.Fits (c : Cod κ α) (P : Program) (t : TypeId) (z : Value) : Prop where
 ty : ∃ kt et d, P.underlying t = some (.map kt et) ∧ P.underlying kt = some d ∧ (∀ a b, Instr.sameNow d (c.enc a) (c.enc b) = some (decide (a = b))) ∧ (∀ a b n w, (Instr.checkKey b (n + 1) kt (c.enc a)).run P w = .ok () w) ∧ ∀ w, (zeroValue et).run P w = .ok z w
 bits : ∀ a, Instr.sameBits 10000 (c.enc a) (c.enc a) = true
def Zb7 (c : Cod κ α) : List (Me κ α) → κ → Nat → Option (Nat × Value)
 | [], _, _ => none
 | e :: es, d, i => if d = e.k then some (i, c.val e.a) else Zb7 c es d (i + 1)
def Zcu : List (Me κ α) → κ → Option α
 | [], _ => none
 | e :: es, d => if d = e.k then some e.a else Zcu es d
def Zed : List (Me κ α) → κ → α → Nat → List (Me κ α)
 | [], d, a, b => [⟨d, a, b⟩]
 | x :: es, d, a, b => if d = x.k then ⟨d, a, x.born⟩ :: es else x :: Zed es d a b
theorem Zws {P : Program} {w : World} {r : Nat} {es : Array MapEntry} {c : Nat} (hb : w.heap[r]? = some (.map es c)) : (getObj r).run P w = .ok (.map es c) w := by simp [getObj, Sem.run, hb]
theorem Zk8 {P : Program} {w : World} {r : Nat} {es : Array MapEntry} {c : Nat} (o' : Obj) (hb : w.heap[r]? = some (.map es c)) : (setObj r o').run P w = .ok () { w with heap := w.heap.setIfInBounds r o' } := by simp [setObj, Sem.run, hb]
theorem Zk9 (c : Cod κ α) (d : TypeDesc) (h : ∀ a b, Instr.sameNow d (c.enc a) (c.enc b) = some (decide (a = b))) (k : κ) : ∀ (es : List (Me κ α)) (i : Nat), Instr.findNow d (c.enc k) (es.map c.ent) i = some (Zb7 c es k i)
 | [], i => rfl
 | e :: es, i => by
  rw [List.map_cons]
  unfold Instr.findNow
  rw [show (c.ent e).key = c.enc e.k from rfl, h]
  by_cases hk : k = e.k
  ·simp only [hk, decide_true, Zb7, if_true]
   rfl
  ·simp only [hk, decide_false, Zb7, if_false]
   exact Zk9 c d h k es (i + 1)
theorem Zla {P : Program} (c : Cod κ α) (kt : TypeId) (d : TypeDesc) (hd : P.underlying kt = some d) (h : ∀ a b, Instr.sameNow d (c.enc a) (c.enc b) = some (decide (a = b))) (k : κ) (es : List (Me κ α)) (w : World) :
  (Instr.findKey kt (c.enc k) (es.map c.ent)).run P w = .ok (Zb7 c es k 0) w := by
 unfold Instr.findKey
 rw [Sem.run_bind, run_underlying hd, Result.andThen_ok, Zk9 c d h k es 0]
 rfl
theorem Zi4 (c : Cod κ α) : ∀ (es : List (Me κ α)) (d : κ) (i : Nat), (Zb7 c es d i).map (·.2) = (Zcu es d).map c.val
 | [], _, _ => rfl
 | e :: es, d, i => by
  unfold Zb7 Zcu
  split
  ·rfl
  ·exact Zi4 c es d (i + 1)
def Zjl (c : Cod κ α) (z : Value) (es : List (Me κ α)) (d : κ) : Value := match Zcu es d with | some a => c.val a | none => z
theorem run_look {P : Program} {c : Cod κ α} {t : TypeId} {z : Value} (H : c.Fits P t z) (w : World) (r clock : Nat) (es : List (Me κ α)) (hb : w.heap[r]? = some (.map (es.map c.ent).toArray clock)) (d : κ) (b : Bool) :
  (Instr.lookup t (.map (some r)) (c.enc d) b).run P w = .ok (if b then .tuple #[Zjl c z es d, .bool (Zcu es d).isSome] else Zjl c z es d) w := by
 obtain ⟨kt, et, td, h1, h2, h3, h4, h5⟩ := H.ty
 unfold Instr.lookup
 simp only [Sem.run_bind, run_underlying h1, Result.andThen_ok, Sem.run_pure, Zws hb, h4 d _ 9999 w]
 rw [Zla c kt td h2 h3 d es w]
 have hl := Zi4 c es d 0
 unfold Zjl
 cases e1 : Zb7 c es d 0 with
 | none =>
  rw [e1] at hl
  cases e2 : Zcu es d with
  | none => simp only [Result.andThen_ok, Sem.run_bind, h5, Sem.run_pure, Option.isSome_none]
  | some e => rw [e2] at hl; cases hl
 | some p =>
  rw [e1] at hl
  cases e2 : Zcu es d with
  | none => rw [e2] at hl; cases hl
  | some e =>
   rw [e2] at hl
   obtain ⟨i, v⟩ := p
   have hv : v = c.val e := by simpa using hl
   subst hv
   simp only [Result.andThen_ok, Sem.run_bind, Sem.run_pure, Option.isSome_some]
theorem Zgj (c : Cod κ α) (d : κ) (a : α) (b : Nat) : ∀ (es : List (Me κ α)) (i : Nat) (p : Nat × Value), Zb7 c es d i = some p → ∃ j, p.1 = i + j ∧ j < es.length ∧ (es.map c.ent).toArray.modify j (fun x => { x with key := c.enc d, val := c.val a }) = ((Zed es d a b).map c.ent).toArray ∧ ((es.map c.ent).toArray[j]?).map (·.key) = some (c.enc d)
 | [], i, p, h => by cases h
 | x :: es, i, p, h => by
  unfold Zb7 at h
  by_cases hk : d = x.k
  ·rw [if_pos hk] at h
   cases h
   refine ⟨0, rfl, by simp, ?_, by simp [Cod.ent, hk]⟩
   rw [Zed, if_pos hk]
   apply Array.ext'
   simp [Cod.ent]
  ·rw [if_neg hk] at h
   obtain ⟨j, h1, h2, h3, h4⟩ := Zgj c d a b es (i + 1) p h
   refine ⟨j + 1, by omega, by simp; omega, ?_, by simpa using h4⟩
   rw [Zed, if_neg hk]
   apply Array.ext'
   have := congrArg Array.toList h3
   simp at this ⊢
   exact this
theorem Zi5 (c : Cod κ α) (d : κ) (a : α) (b : Nat) : ∀ (es : List (Me κ α)) (i : Nat), Zb7 c es d i = none → (es.map c.ent).toArray.push { key := c.enc d, val := c.val a, born := b } = ((Zed es d a b).map c.ent).toArray
 | [], i, _ => by simp [Zed, Cod.ent]
 | x :: es, i, h => by
  unfold Zb7 at h
  by_cases hk : d = x.k
  ·rw [if_pos hk] at h; cases h
  ·rw [if_neg hk] at h
   have := congrArg Array.toList (Zi5 c d a b es (i + 1) h)
   rw [Zed, if_neg hk]
   apply Array.ext'
   simp at this ⊢
   exact this
def World.over (w : World) (r : Nat) (o : Obj) : World := { w with heap := w.heap.setIfInBounds r o }
theorem Zp2 (w : World) (r : Nat) (o : Obj) (h : r < w.heap.size) : (World.over w r o).heap[r]? = some o := by
 simp [World.over, h]
theorem run_lay {P : Program} {c : Cod κ α} {t : TypeId} {z : Value} (H : c.Fits P t z) (w : World) (r clock : Nat) (es : List (Me κ α)) (hb : w.heap[r]? = some (.map (es.map c.ent).toArray clock)) (d : κ) (a : α) :
  ∃ clock', (Instr.mapUpdate t (.map (some r)) (c.enc d) (c.val a)).run P w = .ok () (World.over w r (.map ((Zed es d a clock).map c.ent).toArray clock')) := by
 obtain ⟨kt, et, td, h1, h2, h3, h4, h5⟩ := H.ty
 unfold Instr.mapUpdate
 simp only [Sem.run_bind, run_underlying h1, Result.andThen_ok, Zws hb, h4 d _ 9999 w]
 rw [Zla c kt td h2 h3 d es w]
 cases e1 : Zb7 c es d 0 with
 | none =>
  refine ⟨clock + 1, ?_⟩
  simp only [Result.andThen_ok]
  rw [Zk8 _ hb, Zi5 c d a clock es 0 e1]
  rfl
 | some p =>
  obtain ⟨j, i1, i2, i3, i4⟩ := Zgj c d a clock es 0 p e1
  refine ⟨clock, ?_⟩
  obtain ⟨i, v⟩ := p
  have hi : i = j := by simpa using i1
  subst hi
  simp only [Result.andThen_ok, Sem.run_bind]
  rw [i4]
  unfold Instr.keyThatStays
  simp only [Option.getD_some, H.bits, if_true, Sem.run_pure, Result.andThen_ok]
  rw [Zk8 _ hb, i3]
  rfl
theorem Zi6 : ∀ (es : List (Me κ α)) (d : κ) (a : α) (b : Nat) (d' : κ), Zcu (Zed es d a b) d' = if d' = d then some a else Zcu es d'
 | [], d, a, b, d' => rfl
 | x :: es, d, a, b, d' => by
  rw [Zed]
  by_cases hk : d = x.k
  ·rw [if_pos hk, Zcu, Zcu]
   by_cases h : d' = d
   ·rw [if_pos h, if_pos h]
   ·rw [if_neg h, if_neg h, if_neg (fun e => h (e.trans hk.symm))]
  ·rw [if_neg hk, Zcu, Zcu, Zi6 es d a b d']
   by_cases h : d' = x.k
   ·rw [if_pos h, if_pos h, if_neg (fun e => hk (e.symm.trans h))]
   ·rw [if_neg h, if_neg h]
end Go.Proofs.YtgoabnehdmdikaaGreatDoor
namespace Go.Proofs.YtgoabnehdmdikaaGreatDoor
open Go.RowKit
theorem Zu9 (a b : List UInt8) : ((⟨a.toArray⟩ : ByteArray) == ⟨b.toArray⟩) = decide (a = b) := by
 have h := Go.MapKept.bytes_beq (⟨a.toArray⟩ : ByteArray) ⟨b.toArray⟩
 by_cases e : a = b
 ·rw [decide_eq_true e, h, e]
 ·rw [decide_eq_false e]
  cases hb : ((⟨a.toArray⟩ : ByteArray) == ⟨b.toArray⟩) with
  | false => rfl
  | true =>
   rw [h] at hb
   injection hb with hb
   exact absurd (List.toArray_inj hb) e
theorem Zwt (w : World) (b : Bool) (n : Nat) (x : ByteArray) : (Instr.checkKey b (n + 1) 9 (.string x)).run Tryz.prog w = .ok () w := by
 unfold Instr.checkKey
 simp [run_underlying Tryz.underlying9, Sem.run_pure]
theorem Zxg (x : ByteArray) : Instr.sameBits 10000 (.string x) (.string x) = true := by
 have h := Go.MapKept.bytes_beq x x
 unfold Instr.sameBits
 first | exact h.2 rfl | simp [h]
def cN : Cod (List UInt8) Int := ⟨fun l => .string ⟨l.toArray⟩, .int .i64⟩
theorem Ztg : cN.Fits Tryz.prog 95 (.int .i64 0) :=
 ⟨⟨9, 3, _, Tryz.underlying95, Tryz.underlying9, fun a b => by show some (_ == _) = _; rw [Zu9], fun a b n w => Zwt w b n _, fun w => by kernel_rfl⟩, fun a => Zxg _⟩
theorem Zp3 (w : World) (r : Nat) (o : Obj) : Kept (fun k => k = r) w (World.over w r o) :=
 ⟨rfl, rfl, rfl, by simp [World.over], fun k _ hn => by
  show (w.heap.setIfInBounds r o)[k]? = _
  rw [Array.getElem?_setIfInBounds, if_neg (fun h => hn h.symm)]⟩
theorem Zsl : (Tryz.prog.info? 78).map (fun i => (i.zero, i.size, i.bytes)) = some (some (.agg #[.int .i64 0, .int .i64 0, .int .i64 0, .slice none 0 0]), 4, 48) := by kernel_rfl
theorem Zi7 {w0 W : World} {v : Value} {k : Nat} {xs : List Value} (h : W.ownsRow w0.heap.size 78 4 v k xs) (x0 x1 x2 x3 : Value) (h0 : x0.oneCell' = true) (h1 : x1.oneCell' = true) (h2 : x2.oneCell' = true) (h3 : x3.oneCell' = true) (hk : Kept nF w0 W) (hl : k ≤ 90000) :
  ∃ v' w', (Builtin.append_ #[24, 24] 24 #[v, .slice (some ⟨W.heap.size, 0, none⟩) 1 1]).run Tryz.prog (W.alloc (.cells #[x0, x1, x2, x3] 78)) = .ok v' w' ∧ w'.ownsRow w0.heap.size 78 4 v' (k + 1) (xs ++ [x0, x1, x2, x3]) ∧ Kept nF w0 w' ∧ Kept (fun q => v.ownBlock = some q) W w' ∧ Xx W v v' := by
 obtain ⟨i0, hi, hz0, hz1, hz2⟩ := info_parts Zsl
 obtain ⟨v', w', hr, h2', h3', h4, _⟩ := Zaa (P := Tryz.prog) (W.alloc (.cells #[x0, x1, x2, x3] 78)) w0.heap.size 24 24 78 i0 _ 4 48 Tryz.underlying24 hi hz0 hz1 hz2 rfl (by decide) v k xs (h.alloc _) ⟨W.heap.size, 0, none⟩ 1 1 [x0, x1, x2, x3] (by simp) (fun j u hj => by
  have hjl := (List.getElem?_eq_some_iff.1 hj).1
  rw [Addr.add_lit, Nat.zero_add, Zb _ _ _ _ _ _ (heap_alloc_new W _)]
  simpa using hj) (fun u hu => by
   simp at hu
   rcases hu with rfl | rfl | rfl | rfl <;> assumption) (by unfold maxLen; omega) (by omega) (by have := hk.size; simp; omega)
 have hk1 : Kept (fun k => v.ownBlock = some k) W w' := ((Kept.refl _ W).alloc _).grown h3' (fun k hk => .inr hk)
 exact ⟨v', w', hr, h2', hk.step hk1 (fun i hi e => by have := (h.lt i e).1; omega), hk1, by simpa [Xx] using h4⟩
theorem Zsm : (Tryz.prog.info? 95).map (fun i => (i.zero, i.size, i.bytes)) = some (some (.map none), 1, 8) := by kernel_rfl
theorem Zsn {w0 W : World} {v : Value} {k : Nat} {xs : List Value} (h : W.ownsRow w0.heap.size 95 1 v k xs) (x0 : Value) (h0 : x0.oneCell' = true) (hk : Kept nF w0 W) (hl : k ≤ 90000) :
  ∃ v' w', (Builtin.append_ #[96, 96] 96 #[v, .slice (some ⟨W.heap.size, 0, none⟩) 1 1]).run Tryz.prog (W.alloc (.cells #[x0] 95)) = .ok v' w' ∧ w'.ownsRow w0.heap.size 95 1 v' (k + 1) (xs ++ [x0]) ∧ Kept nF w0 w' ∧ Kept (fun q => v.ownBlock = some q) W w' ∧ Xx W v v' := by
 obtain ⟨i0, hi, hz0, hz1, hz2⟩ := info_parts Zsm
 obtain ⟨v', w', hr, h2', h3', h4, _⟩ := Zaa (P := Tryz.prog) (W.alloc (.cells #[x0] 95)) w0.heap.size 96 96 95 i0 _ 1 8 Tryz.underlying96 hi hz0 hz1 hz2 rfl (by decide) v k xs (h.alloc _) ⟨W.heap.size, 0, none⟩ 1 1 [x0] (by simp) (fun j u hj => by
  have hjl := (List.getElem?_eq_some_iff.1 hj).1
  rw [Addr.add_lit, Nat.zero_add, Zb _ _ _ _ _ _ (heap_alloc_new W _)]
  simpa using hj) (fun u hu => by
   simp at hu
   subst hu; exact h0) (by unfold maxLen; omega) (by omega) (by have := hk.size; simp; omega)
 have hk1 : Kept (fun k => v.ownBlock = some k) W w' := ((Kept.refl _ W).alloc _).grown h3' (fun k hk => .inr hk)
 exact ⟨v', w', hr, h2', hk.step hk1 (fun i hi e => by have := (h.lt i e).1; omega), hk1, by simpa [Xx] using h4⟩
theorem Zso : (Tryz.prog.info? 75).map (fun i => (i.zero, i.size, i.bytes)) = some (some (.agg #[.int .i64 0, .int .i64 0]), 2, 16) := by kernel_rfl
theorem Zlb {w0 W : World} {v : Value} {k : Nat} {xs : List Value} (h : W.ownsRow w0.heap.size 75 2 v k xs) (x0 x1 : Value) (h0 : x0.oneCell' = true) (h1 : x1.oneCell' = true) (hk : Kept nF w0 W) (hl : k ≤ 90000) :
  ∃ v' w', (Builtin.append_ #[76, 76] 76 #[v, .slice (some ⟨W.heap.size, 0, none⟩) 1 1]).run Tryz.prog (W.alloc (.cells #[x0, x1] 75)) = .ok v' w' ∧ w'.ownsRow w0.heap.size 75 2 v' (k + 1) (xs ++ [x0, x1]) ∧ Kept nF w0 w' ∧ Kept (fun q => v.ownBlock = some q) W w' ∧ Xx W v v' := by
 obtain ⟨i0, hi, hz0, hz1, hz2⟩ := info_parts Zso
 obtain ⟨v', w', hr, h2', h3', h4, _⟩ := Zaa (P := Tryz.prog) (W.alloc (.cells #[x0, x1] 75)) w0.heap.size 76 76 75 i0 _ 2 16 Tryz.underlying76 hi hz0 hz1 hz2 rfl (by decide) v k xs (h.alloc _) ⟨W.heap.size, 0, none⟩ 1 1 [x0, x1] (by simp) (fun j u hj => by
  have hjl := (List.getElem?_eq_some_iff.1 hj).1
  rw [Addr.add_lit, Nat.zero_add, Zb _ _ _ _ _ _ (heap_alloc_new W _)]
  simpa using hj) (fun u hu => by
   simp at hu
   rcases hu with rfl | rfl <;> assumption) (by unfold maxLen; omega) (by omega) (by have := hk.size; simp; omega)
 have hk1 : Kept (fun k => v.ownBlock = some k) W w' := ((Kept.refl _ W).alloc _).grown h3' (fun k hk => .inr hk)
 exact ⟨v', w', hr, h2', hk.step hk1 (fun i hi e => by have := (h.lt i e).1; omega), hk1, by simpa [Xx] using h4⟩
theorem Zxh {w : World} {g : Nat} {t : TypeId} {a0 a1 a2 a3 a4 a5 a6 : Value} (h : w.heap[g]? = some (.cells #[a0, a1, a2, a3, a4, a5, a6] t (0, 0))) : w.cell? ⟨g, 0, none⟩ = some a0 ∧ w.cell? ⟨g, 1, none⟩ = some a1 ∧ w.cell? ⟨g, 2, none⟩ = some a2 ∧ w.cell? ⟨g, 3, none⟩ = some a3 ∧ w.cell? ⟨g, 4, none⟩ = some a4 ∧ w.cell? ⟨g, 5, none⟩ = some a5 ∧ w.cell? ⟨g, 6, none⟩ = some a6 ∧ w.frozen? ⟨g, 2, none⟩ = false ∧ w.frozen? ⟨g, 5, none⟩ = false :=
 ⟨Zb _ _ 0 _ _ _ h, Zb _ _ 1 _ _ _ h, Zb _ _ 2 _ _ _ h, Zb _ _ 3 _ _ _ h, Zb _ _ 4 _ _ _ h, Zb _ _ 5 _ _ _ h, Zb _ _ 6 _ _ _ h, Ze _ _ 2 _ _ h, Ze _ _ 5 _ _ h⟩
theorem Zi8 (L : List Sh) (g t : Nat) (s : ByteArray) (w : World) (hg : w.heap[g]? = some (.cells (Yi L).toArray t (0, 0))) (hL : L.length ≤ 46) :
  Calls Tryz.prog 143 #[.slice (some ⟨g, 0, none⟩) L.length L.length, .string s] w fun e w' => e = .returned (Zai L s) ∧ Kept nF w w' := by
 have HG : Hid (∀ (wr : World) (k : Nat), Kept nF w wr → k < L.length → wr.rangeAt g (k * 4) (L.getD k Sh.none).cells) := fun wr k hk hl =>
  Zoi ((hk.block g (Array.getElem?_eq_some_iff.1 hg).1 id).trans hg) hl
 clear hg
 obtain ⟨N, hn⟩ : ∃ N, L.length = N := ⟨_, rfl⟩
 rw [hn]
 rw [hn] at hL
 have HN2 := Za hn
 clear hn
 go_enter Tryz.func143, Tryz.ntmps143
 go_wp2
 go_loopw [10] (fun i wr => ∃ k : Nat, k ≤ N ∧ i = .int .i64 (k : Int) ∧ (∀ j, j < k → (L.getD j Sh.none).nm ≠ s) ∧ Kept nF w wr) (fun i _ => N - (intOf i).toNat)
 case atStart => exact ⟨0, by omega, rfl, fun j hj => absurd hj (by omega), Kept.refl _ _⟩
 case round =>
  obtain ⟨k, hk, rfl, hno, hKe⟩ := hrel
  by_cases hlt : k < N
  ·have hr := HG.out wr k hKe (by rw [HN2.out]; exact hlt)
   have HAT : Hid ((L.getD k Sh.none).nm = s → Zai L s = .tuple #[.int .i64 (k : Nat), .bool true]) := fun h => Zgm (by rw [HN2.out]; exact hlt) hno h
   have HNO := Za hno
   generalize hx : L.getD k Sh.none = x at *
   have HX := Za hx
   have HK := Za (hKe.alloc (.cells x.cells.toArray 186))
   have hki : (k : Int) < (N : Int) := by omega
   clear hno hKe hx
   obtain ⟨nm, o, ta, gi⟩ := x
   go_wp2_with (refine wpList_load_mid rfl 186 _ rfl g (k * 4) rfl [.string nm, .int .i64 o, .int .i64 ta, .int .i64 gi] _ hr Tryz.underlying186 rfl Zcr ?_)
   ·have HQ := Za (HAT.out (Zei (by assumption)))
    go_ret2
    exact ⟨congrArg Ending.returned HQ.out.symm, HK.out⟩
   ·rename_i hne
    refine ⟨⟨k + 1, by omega, by go_num, fun j hj => ?_, HK.out⟩, by simp [intOf]; omega⟩
    by_cases e : j = k
    ·subst e
     rw [HX.out]
     exact Zj6 hne
    ·exact HNO.out j (by omega)
  ·obtain rfl : k = N := by omega
   have HK := Za hKe
   have HV := Za (Ze0 (L := L) (s := s) (by rw [HN2.out]; exact hno))
   clear hKe hno
   go_wp2
   go_ret2
   exact ⟨congrArg Ending.returned HV.out.symm, HK.out⟩
theorem Znu (s : ByteArray) (w : World) :
  Calls Tryz.prog 116 #[.string s] w fun e w' => e = .returned (Zai Zj s) ∧ Kept nF w w' := by
 go_enter Tryz.func116, Tryz.ntmps116
 go_wp2_with fail
 refine (Zhr _).mono ?_
 rintro e w1 ⟨rfl, hk1⟩
 have HK1 := Za hk1
 clear hk1
 obtain ⟨hO, hX, hK⟩ := Zap w1 z57 (Yi Zj).toArray 205
 go_upto_region 2 with (first | refine Zbg rfl (some 4) rfl (.pointer (some ⟨w1.heap.size, 0, none⟩)) (w1.alloc (.cells z57 205)) (by kernel_rfl) ?_ | refine wpList_store_row rfl 205 _ _ rfl w1.heap.size (Yi Zj).toArray rfl rfl 205 _ hO Zg1 (by kernel_rfl) Zm5 ?_)
 clear hO
 generalize (w1.alloc (.cells z57 205)).setRow w1.heap.size (Yi Zj).toArray = w2 at *
 have HK2 := Za (HK1.out.trans hK)
 have HR := Za (Zi8 Zj w1.heap.size 205 s w2 hX (by decide))
 clear hK HK1
 go_wp2_with fail
 refine HR.out.mono ?_
 rintro e w3 ⟨rfl, hk3⟩
 have HK3 := Za (HK2.out.trans hk3)
 clear hk3 HR HK2 hX
 by_cases h : Za2 Zj s < Zj.length
 ·have HV := Za (show Zai Zj s = _ from if_pos h)
  rw [HV.out]
  generalize Za2 Zj s = k at *
  clear h
  go_wp2
  go_ret2
  exact ⟨congrArg Ending.returned HV.out.symm, HK3.out⟩
 ·have HV := Za (show Zai Zj s = _ from if_neg h)
  rw [HV.out]
  clear h
  go_wp2
  go_ret2
  exact ⟨congrArg Ending.returned HV.out.symm, HK3.out⟩
def Zyc : ByteArray := ⟨#[114, 101, 116]⟩
theorem Zt {P : Program} {fn : Func} {p u r : Tmp} {ty : TypeId} (h : fn.results = #[.cell p ty, .tmp u, .tmp r]) (tmps : Array Value) (w : World) (g : Nat) (t : TypeId) (cs : Array Value) (fr : Nat × Nat) (d : TypeDesc) (x y : Value)
  (hp : tmps.getD p undef = .pointer (some ⟨g, 0, none⟩)) (hx : tmps.getD u undef = x) (hy : tmps.getD r undef = y) (hg : w.heap[g]? = some (.cells cs t fr)) (hu : P.underlying ty = some d) (hd : (match d with | .struct _ | .array _ _ => true | _ => false) = true) (hi : (P.info? ty).map (·.size) = some cs.size) :
  (results fn tmps).run P w = .ok (.tuple #[.agg cs, x, y]) w := by
 have hp' : tmps[p]?.getD undef = .pointer (some ⟨g, 0, none⟩) := by simpa using hp
 have hx' : tmps[u]?.getD undef = x := by simpa using hx
 have hy' : tmps[r]?.getD undef = y := by simpa using hy
 simp [results, h, hp', hx', hy', asAddr, run_loadVar_row w g t ty cs fr d hg hu hd hi]
theorem Za0 : (Tryz.prog.info? 75).map (·.size) = some 2 := by kernel_rfl
theorem Ym {w : World} {g : Nat} {t : TypeId} {a b : Value} (h : w.heap[g]? = some (.cells #[a, b] t (0, 0))) : w.cell? ⟨g, 0, none⟩ = some a ∧ w.cell? ⟨g, 1, none⟩ = some b ∧ w.frozen? ⟨g, 0, none⟩ = false ∧ w.frozen? ⟨g, 1, none⟩ = false :=
 ⟨Zb _ _ 0 _ _ _ h, Zb _ _ 1 _ _ _ h, Ze _ _ 0 _ _ h, Ze _ _ 1 _ _ h⟩
attribute [irreducible] Zyc
abbrev Zsp : ByteArray := ⟨#[102, 117, 110, 99, 32, 109, 97, 105, 110, 32, 48, 32, 48, 32, 49, 10, 114, 101, 116]⟩
abbrev nlB : ByteArray := ⟨#[10]⟩
def p1 : PG := ⟨0, [], [⟨0, 0, 1, [⟨18, 0⟩]⟩]⟩
theorem Znv : p1.Ok := by
 refine ⟨by decide, ⟨by simp [p1], by simp [p1]⟩, fun f hf => ?_, by decide⟩
 simp [p1] at hf
 subst hf
 exact ⟨by decide, by decide, by decide, fun y hy => by simp at hy; subst hy; exact ⟨by decide, by decide⟩, by decide⟩
theorem Zsq : Ya p1 = 0 := by kernel_rfl
theorem Zak : (Tryz.prog.info? 26).map (·.size) = some 3 := by kernel_rfl
def Pg1 (w : World) (B : Nat) (fv : Value) : Prop := ∃ cv, w.ownsRow B 78 4 fv 1 [.int .i64 0, .int .i64 0, .int .i64 1, cv] ∧ w.ownsRow B 75 2 cv 1 [.int .i64 18, .int .i64 0]
theorem Pg1.same {w w' : World} {B : Nat} {fv : Value} (h : Pg1 w B fv) (hk : Kept nF w w') : Pg1 w' B fv := by
 obtain ⟨cv, h1, h2⟩ := h
 exact ⟨cv, hk.ownsRow h1 (fun _ _ f => f), hk.ownsRow h2 (fun _ _ f => f)⟩
theorem Pg1.put {w w' : World} {B p0 : Nat} {fv : Value} {cs : Array Value} (h : Pg1 w B fv) (hp : w.heap[p0]? = some (.cells cs 26 (0, 0))) (hk : Kept (fun q => q = p0) w w') : Pg1 w' B fv := by
 obtain ⟨cv, h1, h2⟩ := h
 exact ⟨cv, hk.ownsRow h1 (fun q hq e => Zs h1 hp (by decide) (by rw [hq, e])), hk.ownsRow h2 (fun q hq e => Zs h2 hp (by decide) (by rw [hq, e]))⟩
theorem Zms {w w' : World} {B n : Nat} {v : Value} {xs : List Value} (h : w.ownsRow B 5 1 v n xs) (hk : Kept (fun q => v.ownBlock = some q) w w') : Lib.OthersKept 5 none w w' := fun k o hk' _ hn => Zc hk hk' (fun e => by
 rcases h.2 with ⟨rfl, _⟩ | ⟨g, cap, cur, rfl, _, hgg, _⟩
 ·cases e
 ·obtain rfl : g = k := by simpa [Value.ownBlock] using e
  rw [hgg] at hk'
  cases hk'
  exact hn _ _ rfl)
theorem Zab {w w' : World} (hk : Kept nF w w') : Lib.OthersKept 5 none w w' := fun k o hk' _ _ => Zc hk hk' id
theorem Oth5.box {w w' : World} {g t : Nat} {cs : Array Value} {f : Nat × Nat} (h : Lib.OthersKept 5 none w w') (hb : w.heap[g]? = some (.cells cs t f)) (ht : t ≠ 5) : w'.heap[g]? = some (.cells cs t f) := h g _ hb (by simp) (fun c fz e => by cases e; exact ht rfl)
theorem Gl.tab5 {w : World} (h : Gl w) {B : Nat} (hB : 8 ≤ B) : Lib.TabBelow Tryz.prog B w "internal/strconv.uint64pow10" .u64 Lib.pow10Tab := fun w' hb => by
 unfold Lib.TabIs
 rw [Zi1 Zi2 (hb.block 4 (by omega))]
 exact h.tab
theorem Zgt {w0 w w' : World} (h : Kept nF w0 w) (hb : Below w0.heap.size w w') : Kept nF w0 w' := h.step (Zfc hb) (fun i hi e => by omega)
structure Bs (w0 w1 wr : World) (ao : Option Addr) (m c : Nat) (zs : List Value) : Prop where
 own : wr.ownsRow w0.heap.size 5 1 (.slice ao m c) m zs
 kept : Kept nF w0 wr
 oth : Lib.OthersKept 5 none w1 wr
theorem Bs.len {w0 w1 wr : World} {ao : Option Addr} {m c : Nat} {zs : List Value} (h : Bs w0 w1 wr ao m c zs) : m = zs.length := by have := h.own.1; omega
theorem Bs.same {w0 w1 wr w' : World} {ao : Option Addr} {m c : Nat} {zs : List Value} (h : Bs w0 w1 wr ao m c zs) (hk : Kept nF wr w') : Bs w0 w1 w' ao m c zs := ⟨hk.ownsRow h.own (fun _ _ f => f), h.kept.trans hk, h.oth.trans (Zab hk)⟩
theorem Bs.gl {w0 w1 wr : World} {ao : Option Addr} {m c : Nat} {zs : List Value} (h : Bs w0 w1 wr ao m c zs) (hG : Gl w0) : Gl wr := hG.same h.kept
abbrev Zca : List Value := [.int .u8 109, .int .u8 101, .int .u8 109, .int .u8 111, .int .u8 114, .int .u8 121]
abbrev Wi : Array Value := #[.int .u8 109, .int .u8 101, .int .u8 109, .int .u8 111, .int .u8 114, .int .u8 121]
theorem Zva (w0 W : World) (hk : Kept nF w0 W) : (W.alloc (.cells Wi 5)).ownsRow w0.heap.size 5 1 (.slice (some ⟨W.heap.size, 0, none⟩) 6 6) 6 Zca :=
 ⟨rfl, .inr ⟨W.heap.size, 6, _, rfl, hk.size, heap_alloc_new W _, Nat.le_refl _, by decide, rfl, rfl⟩⟩
theorem Zlc {w w' : World} {B e s n : Nat} {v : Value} {xs : List Value} (h : w.ownsRow B e s v n xs) (hb : ∀ g, v.ownBlock = some g → w'.heap[g]? = w.heap[g]?) : w'.ownsRow B e s v n xs := by
 refine ⟨h.1, ?_⟩
 rcases h.2 with hh | ⟨g, cap, cur, rfl, hbg, hgg, rest⟩
 ·exact .inl hh
 ·exact .inr ⟨g, cap, cur, rfl, hbg, (hb g rfl).trans hgg, rest⟩
theorem Znw (w0 wa : World) (hk : Kept nF w0 wa) (x : Int) :
  ∃ ao' m' c' w', (Builtin.append_ #[23, 23] 23 #[.slice (some ⟨wa.heap.size, 0, none⟩) 6 6, .slice (some ⟨wa.heap.size + 1, 0, none⟩) 1 1]).run Tryz.prog ((wa.alloc (.cells Wi 5 (6, 7))).alloc (.cells #[.int .u8 x] 5)) = .ok (.slice ao' m' c') w' ∧ w'.ownsRow w0.heap.size 5 1 (.slice ao' m' c') m' (Zca ++ [.int .u8 x]) ∧ Kept nF wa w' := by
 obtain ⟨i0, hi, hz0, hz1, hz2⟩ := info_parts Tryz.info5
 have hsu : (wa.alloc (.cells Wi 5)).heap.size = wa.heap.size + 1 := by simp
 obtain ⟨v', wu, hr, ho, hk0, hk1, hn⟩ := Zcn (Zva w0 wa hk) (.int .u8 x) rfl (hk.trans ((Kept.refl _ _).alloc _)) (by omega)
 rw [hsu] at hr
 have hg := fun (W : World) (h1 : ∀ j v, Zca[j]? = some v → W.cell? ((⟨wa.heap.size, 0, none⟩ : Addr).add j) = some v) (h2 : ∀ j v, [Value.int .u8 x][j]? = some v → W.cell? ((⟨wa.heap.size + 1, 0, none⟩ : Addr).add j) = some v) =>
  run_append_grow (P := Tryz.prog) W 23 23 5 i0 (.int .u8 0) Tryz.underlying23 hi hz0 ⟨wa.heap.size, 0, none⟩ 6 6 Zca (by rw [hz1]; rfl) h1 ⟨wa.heap.size + 1, 0, none⟩ 1 1 [.int .u8 x] (by rw [hz1]; rfl) h2 (by omega) (by decide) (growslice_fits (by decide) (by rw [hz2]; decide))
 have cells : ∀ f : Nat × Nat, (∀ j v, Zca[j]? = some v → ((wa.alloc (.cells Wi 5 f)).alloc (.cells #[.int .u8 x] 5)).cell? ((⟨wa.heap.size, 0, none⟩ : Addr).add j) = some v) ∧ (∀ j v, [Value.int .u8 x][j]? = some v → ((wa.alloc (.cells Wi 5 f)).alloc (.cells #[.int .u8 x] 5)).cell? ((⟨wa.heap.size + 1, 0, none⟩ : Addr).add j) = some v) := fun f => by
  have hsz : (wa.alloc (.cells Wi 5 f)).heap.size = wa.heap.size + 1 := by simp
  have ha : ((wa.alloc (.cells Wi 5 f)).alloc (.cells #[.int .u8 x] 5)).heap[wa.heap.size]? = some (.cells Wi 5 f) := by
   rw [heap_alloc_old _ _ (by simp)]
   exact heap_alloc_new wa _
  have hb : ((wa.alloc (.cells Wi 5 f)).alloc (.cells #[.int .u8 x] 5)).heap[wa.heap.size + 1]? = some (.cells #[.int .u8 x] 5) := hsz ▸ heap_alloc_new _ _
  refine ⟨fun j v hj => ?_, fun j v hj => ?_⟩
  ·rw [Addr.add_lit, Nat.zero_add, Zb _ _ _ _ _ _ ha]
   simpa using hj
  ·rw [Addr.add_lit, Nat.zero_add, Zb _ _ _ _ _ _ hb]
   simpa using hj
 have hu := hg _ (cells (0, 0)).1 (cells (0, 0)).2
 have hm := hg _ (cells (6, 7)).1 (cells (6, 7)).2
 rw [hu] at hr
 injection hr with e1 e2
 subst e1 e2
 have ec : grownCap ((wa.alloc (.cells Wi 5 (6, 7))).alloc (.cells #[.int .u8 x] 5)) (6 + 1) 6 5 = grownCap ((wa.alloc (.cells Wi 5)).alloc (.cells #[.int .u8 x] 5)) (6 + 1) 6 5 := rfl
 have es1 : ((wa.alloc (.cells Wi 5)).alloc (.cells #[.int .u8 x] 5)).heap.size = wa.heap.size + 2 := by simp
 have es2 : ((wa.alloc (.cells Wi 5 (6, 7))).alloc (.cells #[.int .u8 x] 5)).heap.size = wa.heap.size + 2 := by simp
 refine ⟨_, _, _, _, hm, ?_, (((Kept.refl nF wa).alloc _).alloc _).drew.alloc _⟩
 rw [ec, es2]
 rw [es1] at ho
 refine Zlc ho (fun g hg' => ?_)
 have eg : g = wa.heap.size + 2 := by simpa [Value.ownBlock] using hg'.symm
 subst eg
 have n1 := heap_alloc_new ((wa.alloc (.cells Wi 5 (6, 7))).alloc (.cells #[.int .u8 x] 5)).drew (.cells (Zca.toArray ++ [Value.int .u8 x].toArray ++ Builtin.zeroCells (Value.int .u8 0).cells (grownCap ((wa.alloc (.cells Wi 5)).alloc (.cells #[.int .u8 x] 5)) (6 + 1) 6 5 - (6 + 1))) 5)
 have n2 := heap_alloc_new ((wa.alloc (.cells Wi 5)).alloc (.cells #[.int .u8 x] 5)).drew (.cells (Zca.toArray ++ [Value.int .u8 x].toArray ++ Builtin.zeroCells (Value.int .u8 0).cells (grownCap ((wa.alloc (.cells Wi 5)).alloc (.cells #[.int .u8 x] 5)) (6 + 1) 6 5 - (6 + 1))) 5)
 rw [show ((wa.alloc (.cells Wi 5 (6, 7))).alloc (.cells #[.int .u8 x] 5)).drew.heap.size = wa.heap.size + 2 from es2] at n1
 rw [show ((wa.alloc (.cells Wi 5)).alloc (.cells #[.int .u8 x] 5)).drew.heap.size = wa.heap.size + 2 from es1] at n2
 exact n1.trans n2.symm
theorem Bs.push {w0 w1 wr : World} {ao : Option Addr} {m c : Nat} {zs : List Value} (h : Bs w0 w1 wr ao m c zs) (ns : List Value) (hone : ∀ u ∈ ns, u.oneCell' = true) (hl : m + ns.length ≤ 140737488355328) :
  ∃ ao' m' c' w', (Builtin.append_ #[23, 23] 23 #[.slice ao m c, .slice (some ⟨wr.heap.size, 0, none⟩) ns.length ns.length]).run Tryz.prog (wr.alloc (.cells ns.toArray 5)) = .ok (.slice ao' m' c') w' ∧ Bs w0 w1 w' ao' m' c' (zs ++ ns) := by
 obtain ⟨i0, hi, hz0, hz1, hz2⟩ := info_parts Tryz.info5
 obtain ⟨v', w', hr, h2, h3, h4, _⟩ := Zaa (P := Tryz.prog) (wr.alloc (.cells ns.toArray 5)) w0.heap.size 23 23 5 i0 _ 1 1 Tryz.underlying23 hi hz0 hz1 hz2 rfl (by decide) (.slice ao m c) m zs (h.own.alloc _) ⟨wr.heap.size, 0, none⟩ ns.length ns.length ns (by simp) (fun j u hj => by
  rw [Addr.add_lit, Nat.zero_add, Zb _ _ _ _ _ _ (heap_alloc_new wr _)]
  simpa using hj) hone (by unfold maxLen; omega) (by omega) (by have := h.kept.size; simp; omega)
 have hk1 : Kept (fun k => (Value.slice ao m c).ownBlock = some k) wr w' := ((Kept.refl _ wr).alloc _).grown h3 (fun k hk => .inr hk)
 obtain ⟨a, q, rfl⟩ := Zd h2
 exact ⟨_, _, _, _, hr, ⟨h2, h.kept.step hk1 (fun i hi e => by have := (h.own.lt i e).1; omega), h.oth.trans (Zms h.own hk1)⟩⟩
theorem Bs.pushS {w0 w1 wr : World} {ao : Option Addr} {m c : Nat} {zs : List Value} (h : Bs w0 w1 wr ao m c zs) (s : ByteArray) (hl : m + s.size ≤ 140737488355328) :
  ∃ ao' m' c' w', (Builtin.append_ #[23, 9] 23 #[.slice ao m c, .string s]).run Tryz.prog wr = .ok (.slice ao' m' c') w' ∧ Bs w0 w1 w' ao' m' c' (zs ++ Lib.strCells s) := by
 obtain ⟨i0, hi, hz0, hz1, hz2⟩ := info_parts Tryz.info5
 obtain ⟨v', w', hr, h2, h3, h4⟩ := Lib.run_append_own_string (P := Tryz.prog) wr w0.heap.size 23 9 23 5 i0 Tryz.underlying23 Tryz.underlying9 hi hz0 hz1 hz2 (.slice ao m c) m zs h.own s (by unfold maxLen; omega) (by omega) h.kept.size
 have hk1 : Kept (fun q => (Value.slice ao m c).ownBlock = some q) wr w' := (Kept.refl _ wr).grown h3 (fun k hk => .inr hk)
 obtain ⟨a, q, rfl⟩ := Zd h2
 exact ⟨_, _, _, _, hr, ⟨h2, h.kept.step hk1 (fun i hi e => by have := (h.own.lt i e).1; omega), h.oth.trans (Zms h.own hk1)⟩⟩
theorem Bs.step {w0 w1 wr w' : World} {ao a' : Option Addr} {m c m' c' : Nat} {zs ns : List Value} (h : Bs w0 w1 wr ao m c zs) (h' : Bs w0 w1 w' a' m' c' (zs ++ ns)) : m' = m + ns.length := by
 rw [h.len, h'.len, List.length_append]
theorem Zc2 (ao : Option Addr) (m c : Nat) (zs : List Value) (i : Int) (h0 : -9223372036854775808 ≤ i) (h1 : i ≤ 9223372036854775807) (w0 w1 wr : World) (hG0 : 8 ≤ w0.heap.size) (hG : Gl w0) (h : Bs w0 w1 wr ao m c zs) (hm : m ≤ 140000000000000) :
  Calls Tryz.prog 46 #[.slice ao m c, .int .i64 i] wr fun e w' => ∃ ao' m' c', e = .returned (.slice ao' m' c') ∧ Bs w0 w1 w' ao' m' c' (zs ++ (.int .u8 32 :: Lib.byteCells (Lib.itoa i))) := by
 obtain ⟨a1, m1, c1, w2, hr, hb⟩ := h.push [.int .u8 32] (by simp [Value.oneCell']) (by simp; omega)
 have hm1 : m1 = m + 1 := by have := h.step hb; simpa using this
 have HA := Za (Tryz.strconv_AppendInt_10 w0.heap.size m1 i h0 h1 (.slice a1 m1 c1) _ w2 hb.own hb.kept.size (by omega) ((hb.gl hG).tab5 hG0))
 have HB := Za hb
 have HR := Za hr
 clear hr hb h hG hG0 h0 h1 hm hm1
 go_enter Tryz.func46, Tryz.ntmps46
 go_wp2_with (at_builtin; refine Zr rfl (.tmp 5) (.tmp 6) 23 23 rfl _ _ rfl rfl _ w2 HR.out ?_)
 refine HA.out.mono ?_
 rintro e w3 ⟨v3, rfl, ho3, hb3, hot3⟩
 rw [List.append_assoc] at ho3
 obtain ⟨a3, c3, hv3⟩ := Zd ho3
 obtain ⟨m3, hm3⟩ := nmd (m1 + (Lib.itoa i).length)
 rw [← hm3] at ho3 hv3
 subst hv3
 have HF : Hid (Bs w0 w1 w3 a3 m3 c3 (zs ++ (.int .u8 32 :: Lib.byteCells (Lib.itoa i)))) := ⟨ho3, Zgt HB.out.kept hb3, HB.out.oth.trans hot3⟩
 clear ho3 hb3 hot3 hm3 HA HR
 go_wp2
 go_ret
 exact ⟨_, _, _, rfl, HF.out⟩
theorem Zd7 (ao : Option Addr) (m c : Nat) (zs : List Value) (l i : Int) (h0 : -9223372036854775808 ≤ i) (h1 : i ≤ 9223372036854775807) (w0 w1 wr : World) (hG0 : 8 ≤ w0.heap.size) (hG : Gl w0) (h : Bs w0 w1 wr ao m c zs) (hm : m ≤ 140000000000000) :
  Calls Tryz.prog 73 #[.slice ao m c, .int .u8 l, .int .i64 i] wr fun e w' => ∃ ao' m' c', e = .returned (.slice ao' m' c') ∧ Bs w0 w1 w' ao' m' c' (zs ++ (.int .u8 l :: Lib.byteCells (Lib.itoa i))) := by
 obtain ⟨a1, m1, c1, w2, hr, hb⟩ := h.push [.int .u8 l] (by simp [Value.oneCell']) (by simp; omega)
 have hm1 : m1 = m + 1 := by have := h.step hb; simpa using this
 have HA := Za (Tryz.strconv_AppendInt_10 w0.heap.size m1 i h0 h1 (.slice a1 m1 c1) _ w2 hb.own hb.kept.size (by omega) ((hb.gl hG).tab5 hG0))
 have HB := Za hb
 have HR := Za hr
 clear hr hb h hG hG0 h0 h1 hm hm1
 go_enter Tryz.func73, Tryz.ntmps73
 go_wp2_with (at_builtin; refine Zr rfl (.tmp 7) (.tmp 9) 23 23 rfl _ _ rfl rfl _ w2 HR.out ?_)
 refine HA.out.mono ?_
 rintro e w3 ⟨v3, rfl, ho3, hb3, hot3⟩
 rw [List.append_assoc] at ho3
 obtain ⟨a3, c3, hv3⟩ := Zd ho3
 obtain ⟨m3, hm3⟩ := nmd (m1 + (Lib.itoa i).length)
 rw [← hm3] at ho3 hv3
 subst hv3
 have HF : Hid (Bs w0 w1 w3 a3 m3 c3 (zs ++ (.int .u8 l :: Lib.byteCells (Lib.itoa i)))) := ⟨ho3, Zgt HB.out.kept hb3, HB.out.oth.trans hot3⟩
 clear ho3 hb3 hot3 hm3 HA HR
 go_wp2
 go_ret
 exact ⟨_, _, _, rfl, HF.out⟩
end Go.Proofs.YtgoabnehdmdikaaGreatDoor

/-
  What a call keeps of memory; a block's cells; small words for walks.
-/
import Derived.Test.YtmkfjdfpcjkmnaaRows
import Derived.WalkKit
import Derived.ProofKit
import Derived.Maps.AppendAt
import Derived.Deep.QuietTactic
import Derived.BigQuiet
import Derived.WalkSmall
import Derived.Laws.Rows
import Derived.Deep.MidRow
import Derived.Deep.WholeRow
import Derived.Deep.RegionHeld3
namespace Go.Proofs.Ytmkfjdfpcjkmnaa
open Go.RowKit
set_option linter.unusedVariables false
set_option linter.unusedSimpArgs false

/-- All blocks that were there are as they were, but those of S; the streams are as they were. -/
structure Kept (S : Nat → Prop) (w w' : World) : Prop where
  os : w'.os = w.os
  tape : w'.tape = w.tape
  output : w'.output = w.output
  size : w.heap.size ≤ w'.heap.size
  block : ∀ k, k < w.heap.size → ¬ S k → w'.heap[k]? = w.heap[k]?

theorem Kept.refl (S : Nat → Prop) (w : World) : Kept S w w := ⟨rfl, rfl, rfl, Nat.le_refl _, fun _ _ _ => rfl⟩
theorem Kept.mono {S T : Nat → Prop} {w w' : World} (h : Kept S w w') (hs : ∀ k, k < w.heap.size → S k → T k) : Kept T w w' := ⟨h.os, h.tape, h.output, h.size, fun k hk hn => h.block k hk (fun e => hn (hs k hk e))⟩
theorem Kept.trans {S : Nat → Prop} {a b c : World} (h : Kept S a b) (k : Kept S b c) : Kept S a c :=
  ⟨k.os.trans h.os, k.tape.trans h.tape, k.output.trans h.output, Nat.le_trans h.size k.size, fun i hi hn => (k.block i (Nat.lt_of_lt_of_le hi h.size) hn).trans (h.block i hi hn)⟩
/-- Two steps, the second of which may also turn what is new since the first began. -/
theorem Kept.step {S T : Nat → Prop} {a b c : World} (h : Kept S a b) (k : Kept T b c) (hs : ∀ i, i < a.heap.size → T i → S i) : Kept S a c :=
  ⟨k.os.trans h.os, k.tape.trans h.tape, k.output.trans h.output, Nat.le_trans h.size k.size, fun i hi hn => (k.block i (Nat.lt_of_lt_of_le hi h.size) (fun e => hn (hs i hi e))).trans (h.block i hi hn)⟩
theorem Kept.alloc {S : Nat → Prop} {a w : World} (h : Kept S a w) (o : Obj) : Kept S a (w.alloc o) :=
  h.trans ⟨rfl, rfl, rfl, by simp, fun k hk _ => Below.heap_alloc _ _ _ (by omega)⟩
theorem Kept.drew {S : Nat → Prop} {a w : World} (h : Kept S a w) : Kept S a w.drew := ⟨h.os, h.tape, h.output, h.size, h.block⟩
theorem Kept.setCell {S : Nat → Prop} {a w : World} (h : Kept S a w) {p : Addr} (hp : a.heap.size ≤ p.block ∨ S p.block) (u : Value) : Kept S a (w.setCell p u) :=
  h.step (T := fun k => k = p.block) ⟨rfl, rfl, rfl, by simp [World.setCell], fun k _ hn => Below.heap_setCell _ _ _ _ hn⟩ (fun i hi e => by subst e; rcases hp with hp | hp; omega; exact hp)
theorem Kept.grown {S : Nat → Prop} {a w w' : World} {row : Option Nat} (h : Kept S a w) (hg : w.grownBy w' row) (hr : ∀ k, row = some k → a.heap.size ≤ k ∨ S k) : Kept S a w' :=
  h.step (T := fun k => row = some k) ⟨hg.os, hg.tape, hg.output, hg.size, fun k hk hn => hg.block k hk (fun e => hn e.symm)⟩ (fun i hi e => by rcases hr i e with h | h; omega; exact h)
theorem Kept.below {S : Nat → Prop} {B : Nat} {w w' : World} (h : Kept S w w') (hB : B ≤ w.heap.size) (hs : ∀ k, S k → B ≤ k) : Below B w w' :=
  ⟨h.os, h.tape, h.output, h.size, fun k hk => h.block k (by omega) (fun e => by have := hs k e; omega)⟩
theorem kept_of_below {B : Nat} {w w' : World} (h : Below B w w') : Kept (fun k => B ≤ k) w w' := ⟨h.os, h.tape, h.output, h.size, fun k _ hn => h.block k (by omega)⟩
theorem Kept.cell {S : Nat → Prop} {w w' : World} (h : Kept S w w') {p : Addr} {v : Value} (hc : w.cell? p = some v) (hp : ¬ S p.block) : w'.cell? p = some v :=
  (World.cell?_of_block (w := w) (h.block p.block (World.block_lt_of_cell? w p hc) hp)).trans hc
theorem Kept.ownsRow {S : Nat → Prop} {w w' : World} (h : Kept S w w') {base : Nat} {e : TypeId} {size : Nat} {v : Value} {n : Nat} {xs : List Value} (ho : w.ownsRow base e size v n xs) (hn : ∀ g, v.ownBlock = some g → ¬ S g) : w'.ownsRow base e size v n xs := by
  refine ⟨ho.1, ?_⟩
  rcases ho.2 with hh | ⟨g, cap, cur, rfl, hb, hgg, rest⟩
  · exact .inl hh
  · refine .inr ⟨g, cap, cur, rfl, hb, ?_, rest⟩
    rw [h.block g (Array.getElem?_eq_some_iff.1 hgg).1 (hn g rfl)]
    exact hgg

theorem cell_block (w : World) (a o : Nat) (c : Array Value) (t : TypeId) (f : Nat × Nat) (h : w.heap[a]? = some (.cells c t f)) : w.cell? ⟨a, o, none⟩ = c[o]? := by
  simp [World.cell?, h]
theorem frozen_block (w : World) (a o : Nat) (c : Array Value) (t : TypeId) (h : w.heap[a]? = some (.cells c t (0, 0))) : w.frozen? ⟨a, o, none⟩ = false := by
  simp [World.frozen?, h]

theorem set_block (w : World) (a o : Nat) (c : Array Value) (t : TypeId) (f : Nat × Nat) (h : w.heap[a]? = some (.cells c t f)) (u : Value) : (w.setCell ⟨a, o, none⟩ u).heap[a]? = some (.cells (c.setIfInBounds o u) t f) := by
  simp [World.setCell, Array.getElem?_modify, h]

theorem hid_of {p : Prop} (h : p) : Hid p := h
theorem body_retv {P : Program} {fn : Func} {R : Ending → World → Prop} {a : Act} {w : World} (hr : fn.results = #[]) (hd : a.defers = []) (hR : R (.returned (.tuple #[])) w) : bodyPost P fn R .ret a w :=
  bodyPost_ret (results_none hr _ _ _) hd hR
theorem kept_drewN {S : Nat → Prop} {a w : World} (h : Kept S a w) (n : Nat) : Kept S a (w.drewN n) := h.trans ⟨rfl, rfl, rfl, Nat.le_refl _, fun _ _ _ => rfl⟩

theorem alloc_old {w : World} {k : Nat} {o x : Obj} (h : w.heap[k]? = some x) : (w.alloc o).heap[k]? = some x := by
  show (w.heap.push o)[k]? = some x
  rw [Array.getElem?_push, if_neg (Nat.ne_of_lt (Array.getElem?_eq_some_iff.1 h).1)]
  exact h
theorem alloc_new (w : World) (o : Obj) {k : Nat} (hk : k = w.heap.size) : (w.alloc o).heap[k]? = some o := by
  subst hk
  show (w.heap.push o)[w.heap.size]? = some o
  simp

theorem cell_far (w : World) (g o o' : Nat) (u : Value) (h : o ≠ o') : (w.setCell ⟨g, o, none⟩ u).cell? ⟨g, o', none⟩ = w.cell? ⟨g, o', none⟩ := by
  apply World.cell?_setCell_other
  intro e
  exact h (congrArg Addr.off e)

/-- A block of 64 words: what the first n of them are. -/
def Words (w : World) (g n : Nat) (f : Nat → Int) : Prop :=
  ∃ cur : Array Value, w.heap[g]? = some (.cells cur 79 (0, 0)) ∧ cur.size = 64 ∧ ∀ j, j < n → cur[j]? = some (.int .u32 (f j))

theorem Words.cell {w : World} {g n k : Nat} {f : Nat → Int} (h : Words w g n f) (hk : k < n) : w.cell? ⟨g, k, none⟩ = some (.int .u32 (f k)) := by
  obtain ⟨cur, h0, h1, h2⟩ := h
  rw [cell_block _ _ _ _ _ _ h0]
  exact h2 k hk
theorem Words.there {w : World} {g n k : Nat} {f : Nat → Int} (h : Words w g n f) (hk : k < 64) : (∃ u, w.cell? ⟨g, k, none⟩ = some u) ∧ w.frozen? ⟨g, k, none⟩ = false := by
  obtain ⟨cur, h0, h1, h2⟩ := h
  refine ⟨⟨cur[k]'(by omega), ?_⟩, frozen_block _ _ _ _ _ h0⟩
  rw [cell_block _ _ _ _ _ _ h0]
  exact Array.getElem?_eq_getElem (by omega)
theorem Words.set {w : World} {g n k n' : Nat} {f f' : Nat → Int} (h : Words w g n f) (hk : k < 64) (x : Int) (hx : f' k = x) (hf : ∀ j, j < n' → j ≠ k → j < n ∧ f' j = f j) :
    Words (w.setCell ⟨g, k, none⟩ (.int .u32 x)) g n' f' := by
  obtain ⟨cur, h0, h1, h2⟩ := h
  refine ⟨_, set_block _ _ _ _ _ _ h0 _, by simp [h1], fun j hj => ?_⟩
  rw [Array.getElem?_setIfInBounds]
  by_cases e : k = j
  · subst e
    rw [if_pos rfl, if_pos (by omega), hx]
  · obtain ⟨a, b⟩ := hf j hj (fun h => e h.symm)
    rw [if_neg e, h2 j a, b]
theorem Words.kept {S : Nat → Prop} {w w' : World} {g n : Nat} {f : Nat → Int} (h : Words w g n f) (hk : Kept S w w') (hs : ¬ S g) : Words w' g n f := by
  obtain ⟨cur, h0, h1, h2⟩ := h
  exact ⟨cur, (hk.block g (Array.getElem?_eq_some_iff.1 h0).1 hs).trans h0, h1, h2⟩

/-- One cell out of an array by value. -/
theorem run_index_agg {P : Program} (w : World) (t e : TypeId) (n : Nat) (cs : Array Value) (k : IntKind) (i : Nat) (v : Value) (d : TypeDesc) (h : P.underlying t = some (.array n e)) (hd : P.underlying e = some d) (hr : d.isRow = false)
    (hi : (P.info? e).map (·.size) = some 1) (hn : i < n) (hv : cs[i]? = some v) : (Instr.index t (.agg cs) (.int k (i : Int))).run P w = .ok v w := by
  have hagg : (isAgg e).run P w = .ok false w := by
    unfold isAgg
    rw [Sem.run_bind, run_underlying hd w]
    cases d <;> simp_all
  cases hq : P.info? e with
  | none => simp [hq] at hi
  | some q =>
    have hs : q.size = 1 := by simpa [hq] using hi
    have h1 : (0 : Int) ≤ (i : Int) ∧ (i : Int) < (n : Int) := by omega
    simp [Instr.index, asIntOf, run_underlying h, part, hagg, sizeOf, typeInfo, hq, hs, hv, hn]

theorem kept_set (w : World) (p : Addr) (u : Value) : Kept (fun k => k = p.block) w (w.setCell p u) :=
  ⟨rfl, rfl, rfl, by simp [World.setCell], fun k _ hn => Below.heap_setCell _ _ _ _ hn⟩
theorem Words.other {w : World} {g n : Nat} {f : Nat → Int} (h : Words w g n f) (p : Addr) (u : Value) (hp : g ≠ p.block) : Words (w.setCell p u) g n f := h.kept (kept_set w p u) hp
theorem Kept.setRow {S : Nat → Prop} {a w : World} (h : Kept S a w) {g : Nat} (hg : a.heap.size ≤ g ∨ S g) (cs : Array Value) : Kept S a (w.setRow g cs) :=
  h.step (T := fun k => k = g) ⟨rfl, rfl, rfl, by simp, fun k _ hn => setRow_other _ _ _ _ hn⟩ (fun i hi e => by subst e; rcases hg with hp | hp; omega; exact hp)
theorem oneCells (k : IntKind) (l : List Int) : (l.map (Value.int k)).toArray.all (·.oneCell') = true := by
  rw [Array.all_eq_true_iff_forall_mem]
  intro v hv
  simp at hv
  obtain ⟨a, _, rfl⟩ := hv
  rfl
/-- The whole block, by its list. -/
theorem words_list {cur : Array Value} {l : List Int} {n : Nat} (hs : cur.size = n) (hl : l.length = n) (h : ∀ j, j < n → cur[j]? = some (.int .u32 (l.getD j 0))) : cur = (l.map (Value.int .u32)).toArray := by
  apply Array.ext_getElem?
  intro j
  by_cases hj : j < n
  · rw [h j hj]
    simp [List.getD, List.getElem?_eq_getElem (show j < l.length by omega)]
  · rw [Array.getElem?_eq_none (by omega), Array.getElem?_eq_none (by simp; omega)]
end Go.Proofs.Ytmkfjdfpcjkmnaa

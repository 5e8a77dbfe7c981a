/-
  THE WRITER IN MEMORY: what is kept of it, and the contracts of New, room, Raw, Clone, Done.
-/
import Derived.Test.YtffabihenhejfaaSize
import Derived.Maps.AppendAt
namespace Go.Proofs.Ytffabihenhejfaa
open Go.RowKit
set_option linter.unusedVariables false

/-- All blocks that were there are as they were, but those of S; the streams are as they were. -/
structure Kept (S : Nat → Prop) (w w' : World) : Prop where
  os : w'.os = w.os
  tape : w'.tape = w.tape
  output : w'.output = w.output
  size : w.heap.size ≤ w'.heap.size
  block : ∀ k, k < w.heap.size → ¬ S k → w'.heap[k]? = w.heap[k]?

theorem Kept.refl (S : Nat → Prop) (w : World) : Kept S w w := ⟨rfl, rfl, rfl, Nat.le_refl _, fun _ _ _ => rfl⟩
theorem Kept.mono {S T : Nat → Prop} {w w' : World} (h : Kept S w w') (hs : ∀ k, k < w.heap.size → S k → T k) : Kept T w w' := ⟨h.os, h.tape, h.output, h.size, fun k hk hn => h.block k hk (fun e => hn (hs k hk e))⟩
theorem Kept.trans {S : Nat → Prop} {a b c : World} (h : Kept S a b) (k : Kept S b c) : Kept S a c :=
  ⟨k.os.trans h.os, k.tape.trans h.tape, k.output.trans h.output, Nat.le_trans h.size k.size, fun i hi hn => (k.block i (Nat.lt_of_lt_of_le hi h.size) hn).trans (h.block i hi hn)⟩
/-- Two steps, the second of which may also turn what is new since the first began. -/
theorem Kept.step {S T : Nat → Prop} {a b c : World} (h : Kept S a b) (k : Kept T b c) (hs : ∀ i, i < a.heap.size → T i → S i) : Kept S a c :=
  ⟨k.os.trans h.os, k.tape.trans h.tape, k.output.trans h.output, Nat.le_trans h.size k.size, fun i hi hn => (k.block i (Nat.lt_of_lt_of_le hi h.size) (fun e => hn (hs i hi e))).trans (h.block i hi hn)⟩
theorem Kept.alloc {S : Nat → Prop} {a w : World} (h : Kept S a w) (o : Obj) : Kept S a (w.alloc o) :=
  h.trans ⟨rfl, rfl, rfl, by simp, fun k hk _ => Below.heap_alloc _ _ _ (by omega)⟩
theorem Kept.drew {S : Nat → Prop} {a w : World} (h : Kept S a w) : Kept S a w.drew := ⟨h.os, h.tape, h.output, h.size, h.block⟩
theorem Kept.setCell {S : Nat → Prop} {a w : World} (h : Kept S a w) {p : Addr} (hp : a.heap.size ≤ p.block ∨ S p.block) (u : Value) : Kept S a (w.setCell p u) :=
  h.step (T := fun k => k = p.block) ⟨rfl, rfl, rfl, by simp [World.setCell], fun k _ hn => Below.heap_setCell _ _ _ _ hn⟩ (fun i hi e => by subst e; rcases hp with hp | hp; omega; exact hp)
theorem Kept.grown {S : Nat → Prop} {a w w' : World} {row : Option Nat} (h : Kept S a w) (hg : w.grownBy w' row) (hr : ∀ k, row = some k → a.heap.size ≤ k ∨ S k) : Kept S a w' :=
  h.step (T := fun k => row = some k) ⟨hg.os, hg.tape, hg.output, hg.size, fun k hk hn => hg.block k hk (fun e => hn e.symm)⟩ (fun i hi e => by rcases hr i e with h | h; omega; exact h)
theorem Kept.below {S : Nat → Prop} {B : Nat} {w w' : World} (h : Kept S w w') (hB : B ≤ w.heap.size) (hs : ∀ k, S k → B ≤ k) : Below B w w' :=
  ⟨h.os, h.tape, h.output, h.size, fun k hk => h.block k (by omega) (fun e => by have := hs k e; omega)⟩
theorem kept_of_below {B : Nat} {w w' : World} (h : Below B w w') : Kept (fun k => B ≤ k) w w' := ⟨h.os, h.tape, h.output, h.size, fun k _ hn => h.block k (by omega)⟩
theorem Kept.cell {S : Nat → Prop} {w w' : World} (h : Kept S w w') {p : Addr} {v : Value} (hc : w.cell? p = some v) (hp : ¬ S p.block) : w'.cell? p = some v :=
  (World.cell?_of_block (w := w) (h.block p.block (World.block_lt_of_cell? w p hc) hp)).trans hc
theorem Kept.ownsRow {S : Nat → Prop} {w w' : World} (h : Kept S w w') {base : Nat} {e : TypeId} {size : Nat} {v : Value} {n : Nat} {xs : List Value} (ho : w.ownsRow base e size v n xs) (hn : ∀ g, v.ownBlock = some g → ¬ S g) : w'.ownsRow base e size v n xs := by
  refine ⟨ho.1, ?_⟩
  rcases ho.2 with hh | ⟨g, cap, cur, rfl, hb, hgg, rest⟩
  · exact .inl hh
  · refine .inr ⟨g, cap, cur, rfl, hb, ?_, rest⟩
    rw [h.block g (Array.getElem?_eq_some_iff.1 hgg).1 (hn g rfl)]
    exact hgg

/-- A Writer without a fault: its two fields; the bytes that were put lie in a row of its own. -/
def Wr (w : World) (a : Nat) (v : Value) (l : List Int) : Prop :=
  w.heap[a]? = some (.cells #[v, .int .i64 0] 78 (0, 0)) ∧ w.ownsRow 0 5 1 v l.length (l.map (Value.int .u8)) ∧ v.ownBlock ≠ some a

theorem cell_block (w : World) (a o : Nat) (c : Array Value) (t : TypeId) (f : Nat × Nat) (h : w.heap[a]? = some (.cells c t f)) : w.cell? ⟨a, o, none⟩ = c[o]? := by
  simp [World.cell?, h]
theorem frozen_block (w : World) (a o : Nat) (c : Array Value) (t : TypeId) (h : w.heap[a]? = some (.cells c t (0, 0))) : w.frozen? ⟨a, o, none⟩ = false := by
  simp [World.frozen?, h]

theorem set_block (w : World) (a o : Nat) (c : Array Value) (t : TypeId) (f : Nat × Nat) (h : w.heap[a]? = some (.cells c t f)) (u : Value) : (w.setCell ⟨a, o, none⟩ u).heap[a]? = some (.cells (c.setIfInBounds o u) t f) := by
  simp [World.setCell, Array.getElem?_modify, h]

theorem ownsRow_shape {w : World} {base : Nat} {e : TypeId} {size : Nat} {v : Value} {n : Nat} {xs : List Value} (h : w.ownsRow base e size v n xs) : ∃ ao cap, v = .slice ao n cap := by
  rcases h.2 with ⟨rfl, rfl⟩ | ⟨g, cap, cur, rfl, _⟩
  · exact ⟨_, _, rfl⟩
  · exact ⟨_, _, rfl⟩

theorem Try.info5 : (Try.prog.info? 5).map (fun i => (i.zero, i.size, i.bytes)) = some (some (.int .u8 0), 1, 1) := by kernel_rfl

set_option maxHeartbeats 400000 in
theorem room_ok (a n cap : Nat) (ao : Option Addr) (m : Int) (w : World) (h0 : w.cell? ⟨a, 0, none⟩ = some (.slice ao n cap)) (h1 : w.cell? ⟨a, 1, none⟩ = some (.int .i64 0)) (hm : 0 ≤ m) (hn : (n : Int) + m ≤ 4194304) :
    Calls Try.prog 51 #[.pointer (some ⟨a, 0, none⟩), .int .i64 m] w fun e w' => e = .returned (.bool true) ∧ w' = w := by
  go_enter Try.func51, Try.ntmps51
  go_wp2
  go_ret
  exact ⟨rfl, rfl⟩

theorem map_cells {w : World} {p : Addr} {m : Nat} {xs : List Int} (hx : xs.length = m) (hc : ∀ i, i < m → w.cell? (p.add i) = some (.int .u8 (xs.getD i 0))) : ∀ j u, (xs.map (Value.int .u8))[j]? = some u → w.cell? (p.add j) = some u := by
  intro j u hj
  have hl := (List.getElem?_eq_some_iff.1 hj).1
  simp at hl
  rw [hc j (by omega)]
  simp [List.getElem?_map, List.getElem?_eq_getElem hl] at hj
  simp [List.getD, List.getElem?_eq_getElem hl, hj]
theorem map_one (xs : List Int) : ∀ u ∈ xs.map (Value.int .u8), u.oneCell' = true := by
  intro u hu
  obtain ⟨_, _, rfl⟩ := List.mem_map.1 hu
  rfl

theorem kept_set (w : World) (a o : Nat) (u : Value) : Kept (fun k => k = a) w (w.setCell ⟨a, o, none⟩ u) :=
  Kept.setCell (S := fun k => k = a) (p := ⟨a, o, none⟩) (Kept.refl _ _) (.inr rfl) u

/-- Behind an append onto the Writer's row, stored into its field. -/
theorem raw_close {a : Nat} {v v' : Value} {l xs : List Int} {m : Nat} {w w' : World} (hb : w.heap[a]? = some (.cells #[v, .int .i64 0] 78 (0, 0))) (_hown : w.ownsRow 0 5 1 v l.length (l.map (Value.int .u8))) (hne : v.ownBlock ≠ some a)
    (hown' : w'.ownsRow 0 5 1 v' (l.length + m) (l.map (Value.int .u8) ++ xs.map (Value.int .u8))) (hgrow : w.grownBy w' v.ownBlock) (hat : v'.ownBlock = v.ownBlock ∨ v'.ownBlock = some w.heap.size) :
    Wr (w'.setCell ⟨a, 0, none⟩ v') a v' (l ++ xs) ∧ Kept (fun k => k = a ∨ v.ownBlock = some k) w (w'.setCell ⟨a, 0, none⟩ v') ∧ (v'.ownBlock = v.ownBlock ∨ v'.ownBlock = some w.heap.size) := by
  have hal : a < w.heap.size := (Array.getElem?_eq_some_iff.1 hb).1
  have hb' : w'.heap[a]? = some (.cells #[v, .int .i64 0] 78 (0, 0)) := (hgrow.block a hal (fun e => hne e.symm)).trans hb
  have hne' : v'.ownBlock ≠ some a := by
    rcases hat with h | h
    · rw [h]; exact hne
    · rw [h]; intro e; have := Option.some.inj e; omega
  have hlen : (l ++ xs).length = l.length + m := by
    have := hown'.1
    simp at this ⊢
    omega
  refine ⟨⟨?_, ?_, hne'⟩, ?_, hat⟩
  · rw [set_block w' a 0 _ _ _ hb']; rfl
  · rw [hlen, List.map_append]
    exact (kept_set w' a 0 v').ownsRow hown' (fun g hg e => by subst e; exact hne' hg)
  · exact ((Kept.refl _ w).grown hgrow (fun k e => .inr (.inr e))).setCell (.inr (.inl rfl)) _

set_option maxHeartbeats 800000 in
set_option maxRecDepth 1000000 in
theorem raw_any (a : Nat) (v : Value) (l : List Int) (p : Addr) (m c : Nat) (xs : List Int) (w : World) (hw : Wr w a v l) (hx : xs.length = m)
    (hc : ∀ i, i < m → w.cell? (p.add i) = some (.int .u8 (xs.getD i 0))) (hfit : l.length + m ≤ 4194304) :
    Calls Try.prog 28 #[.pointer (some ⟨a, 0, none⟩), .slice (some p) m c] w fun e w' => e = .returned (.tuple #[]) ∧
      ∃ v', Wr w' a v' (l ++ xs) ∧ Kept (fun k => k = a ∨ v.ownBlock = some k) w w' ∧ (v'.ownBlock = v.ownBlock ∨ v'.ownBlock = some w.heap.size) := by
  obtain ⟨hb, hown, hne⟩ := hw
  obtain ⟨ao, cap, rfl⟩ := ownsRow_shape hown
  obtain ⟨i0, hi, hz0, hz1, hz2⟩ := info_parts Try.info5
  have h0 : w.cell? ⟨a, 0, none⟩ = some (.slice ao l.length cap) := by rw [cell_block w a 0 _ _ _ hb]; rfl
  have h1 : w.cell? ⟨a, 1, none⟩ = some (.int .i64 0) := by rw [cell_block w a 1 _ _ _ hb]; rfl
  have hal : a < w.heap.size := (Array.getElem?_eq_some_iff.1 hb).1
  have hm0 : (0 : Int) ≤ (m : Int) := by omega
  have hm1 : (l.length : Int) + (m : Int) ≤ 4194304 := by omega
  go_enter Try.func28, Try.ntmps28
  go_wp2_with fail
  refine (room_ok a l.length cap ao m _ h0 h1 hm0 hm1).mono ?_
  rintro e w1 ⟨rfl, rfl⟩
  go_wp2_with (at_builtin; refine wpList_append_own_at _ rfl (.tmp 12) (.tmp 13) 25 rfl 0 5 i0 (.int .u8 0) 1 1 Try.underlying25 hi hz0 hz1 hz2 rfl (by decide) _ _ _ rfl hown p m c (xs.map (Value.int .u8)) rfl (by simp [hx]) (map_cells hx hc) (map_one xs) (by unfold maxLen; omega) (by omega) (Nat.zero_le _) ?_)
  intro v' w' hown' hgrow hnil hat
  have H := raw_close hb hown hne hown' hgrow hat
  obtain ⟨ao', cap', rfl⟩ := ownsRow_shape hown'
  have hb' : w'.heap[a]? = some (.cells #[.slice ao l.length cap, .int .i64 0] 78 (0, 0)) := (hgrow.block a hal (fun e => hne e.symm)).trans hb
  have k0 : w'.cell? ⟨a, 0, none⟩ = some (.slice ao l.length cap) := by rw [cell_block w' a 0 _ _ _ hb']; rfl
  have kf : w'.frozen? ⟨a, 0, none⟩ = false := frozen_block w' a 0 _ _ hb'
  clear hown' hgrow hat hown hc hb hb' h0 h1 hnil
  go_wp2
  go_end0
  exact ⟨rfl, _, H⟩
end Go.Proofs.Ytffabihenhejfaa

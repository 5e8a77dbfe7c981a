/-
  A row of instructions and words that was handed in.
-/
import Derived.Test.YthiopkndbicmkaaDoorCl
import Derived.Deep.Strs
import Derived.ChangeOld
import Derived.Deep.RegionHeld3
namespace Go.Proofs.YthiopkndbicmkaaDoor
open Go.ChangeShapes Go.WideShapes Go.ChangeAt Go.RowKit Go.Deep
set_option linter.unusedVariables false
set_option linter.unusedSimpArgs false
set_option maxRecDepth 100000

/-- All blocks that were there are as they were. -/
structure Kept (w w' : World) : Prop where
  os : w'.os = w.os
  tape : w'.tape = w.tape
  output : w'.output = w.output
  size : w.heap.size ≤ w'.heap.size
  block : ∀ k, k < w.heap.size → w'.heap[k]? = w.heap[k]?
theorem Kept.refl (w : World) : Kept w w := ⟨rfl, rfl, rfl, Nat.le_refl _, fun _ _ => rfl⟩
theorem Kept.trans {a b c : World} (h : Kept a b) (k : Kept b c) : Kept a c :=
  ⟨k.os.trans h.os, k.tape.trans h.tape, k.output.trans h.output, Nat.le_trans h.size k.size, fun i hi => (k.block i (Nat.lt_of_lt_of_le hi h.size)).trans (h.block i hi)⟩
theorem Kept.alloc {a w : World} (h : Kept a w) (o : Obj) : Kept a (w.alloc o) :=
  h.trans ⟨rfl, rfl, rfl, by simp, fun k hk => Below.heap_alloc _ _ _ (by omega)⟩
theorem kept_drewN {a w : World} (h : Kept a w) (n : Nat) : Kept a (w.drewN n) := h.trans ⟨rfl, rfl, rfl, Nat.le_refl _, fun _ _ => rfl⟩
theorem Kept.cell {w w' : World} (h : Kept w w') {p : Addr} {v : Value} (hc : w.cell? p = some v) : w'.cell? p = some v :=
  (World.cell?_of_block (w := w) (h.block p.block (World.block_lt_of_cell? w p hc))).trans hc
theorem Kept.below {w w' : World} (h : Kept w w') : Below w.heap.size w w' := ⟨h.os, h.tape, h.output, h.size, fun k hk => h.block k hk⟩
theorem Kept.laid {w w' : World} (h : Kept w w') (hL : Laid w) : Laid w' := fun t ht => h.cell (hL t ht)

structure W3 where
  op : Int
  a : Int
  b : Int
structure W3.Ok (t : W3) : Prop where
  a : Wd t.a
  b : Wd t.b
def W3.cells (t : W3) : List Value := [.int .i64 t.op, .int .i64 t.a, .int .i64 t.b]
/-- A value is a slice of these. -/
def WIs (w : World) (v : Value) (ts : List W3) : Prop :=
  ∃ ao cap, v = .slice ao ts.length cap ∧ ts.length ≤ maxLen ∧ ∀ i t, ts[i]? = some t → t.Ok ∧ ∃ g o, ao = some ⟨g, o, none⟩ ∧ w.rangeAt g (o + i * 3) t.cells

theorem cells24 : Tryd.prog.cellsOf 24 = 3 := by kernel_rfl
theorem cells3 : Tryd.prog.cellsOf 3 = 1 := by kernel_rfl

section
variable {H : Type} {enc : TypeId × Value → H} {W : World} {base : Nat} {spare : Nat → Bool} {held : Bool}
theorem open_w3 {fuel : Nat} {cs : List Value} {x : DataW H × List MemPlace} (h : DataW.trod enc Tryd.prog W base spare held fuel 24 cs = some x) : ∃ t : W3, cs = t.cells ∧ t.Ok := by
  obtain ⟨ys, n, _, _, hl, hlen, hf⟩ := DataW.trod_struct Tryd.underlying24 h
  rw [cells24] at hl
  match ys, hlen with
  | [y0, y1, y2], _ =>
    have g0 : DataW.trod enc Tryd.prog W base spare held n 3 ((cs.drop 0).take 1) = some y0 := by simpa [cells3] using hf 0 _ rfl
    have g1 : DataW.trod enc Tryd.prog W base spare held n 3 ((cs.drop 1).take 1) = some y1 := by simpa [cells3] using hf 1 _ rfl
    have g2 : DataW.trod enc Tryd.prog W base spare held n 3 ((cs.drop 2).take 1) = some y2 := by simpa [cells3] using hf 2 _ rfl
    obtain ⟨n0, e0, _, w0⟩ := DataW.trod_int Tryd.underlying3 g0
    obtain ⟨n1, e1, _, w1⟩ := DataW.trod_int Tryd.underlying3 g1
    obtain ⟨n2, e2, _, w2⟩ := DataW.trod_int Tryd.underlying3 g2
    refine ⟨⟨n0, n1, n2⟩, ?_, ⟨bounds_i64 w1, bounds_i64 w2⟩⟩
    have q : cs = (cs.drop 0).take 1 ++ ((cs.drop 1).take 1 ++ (cs.drop 2).take 1) := by
      match cs, hl with
      | [_, _, _], _ => rfl
    rw [e0, e1, e2] at q
    exact q
theorem open_w3s {fuel : Nat} {v : Value} {x : DataW H × List MemPlace} (h : DataW.trod enc Tryd.prog W base spare held fuel 22 [v] = some x) : ∃ ts : List W3, WIs W v ts := by
  rcases open_slice Tryd.underlying22 h with ⟨hcs, _⟩ | ⟨a, len, cap, m, n, D, Pl, hcs, hb, hl, hm, hm', _, hel⟩
  · cases hcs
    exact ⟨[], none, 0, rfl, Nat.zero_le _, fun i t ht => by cases ht⟩
  · cases hcs
    by_cases h0 : len = 0
    · exact ⟨[], some a, cap, by rw [h0]; rfl, Nat.zero_le _, fun i t ht => by cases ht⟩
    · have hlm : len ≤ m := by rw [hm']; split <;> omega
      rw [cells24] at hel
      have hin : Inhabited W3 := ⟨⟨0, 0, 0⟩⟩
      obtain ⟨f, hf⟩ := choose_lt (n := len) (p := fun i (y : W3) => W.cells? base (a.add (i * 3)) 3 = some y.cells ∧ y.Ok) (fun i hi => by
        obtain ⟨cs', h1, h2⟩ := hel i (by omega)
        obtain ⟨y, rfl, h3⟩ := open_w3 h2
        exact ⟨y, h1, h3⟩)
      have hcell : ∀ i, i < len → ∀ j, j < 3 → W.cell? ((a.add (i * 3)).add j) = (f i).cells[j]? := fun i hi => (World.cells?_some (hf i hi).1).2.2
      obtain ⟨b, off, spot⟩ := a
      have hc0 : W.cell? (((⟨b, off, spot⟩ : Addr).add (0 * 3)).add 0) = some (.int .i64 (f 0).op) := hcell 0 (by omega) 0 (by omega)
      have hspot : spot = none := by simpa [Addr.add] using World.cell?_spot hc0
      subst hspot
      refine ⟨(List.range len).map f, some ⟨b, off, none⟩, cap, by simp, by simp; omega, fun i t ht => ?_⟩
      have hi : i < len := by
        have := (List.getElem?_eq_some_iff.1 ht).1
        simpa using this
      obtain rfl : f i = t := by simpa [hi] using ht
      refine ⟨(hf i hi).2, b, off, rfl, fun j u hj => ?_⟩
      have hj3 : j < 3 := by
        have := (List.getElem?_eq_some_iff.1 hj).1
        exact this
      have := hcell i hi j hj3
      rw [Addr.add_mid, Addr.add_mid, hj] at this
      exact this
end

/-- The three cells of one. -/
theorem WIs.at {w w' : World} {ao : Option Addr} {n cap : Nat} {ts : List W3} {k : Nat} {t : W3} (h : WIs w (.slice ao n cap) ts) (hk : Kept w w') (ht : ts[k]? = some t) :
    ∃ g o, ao = some ⟨g, o, none⟩ ∧ t.Ok ∧ w'.cell? ⟨g, o + k * 3, none⟩ = some (.int .i64 t.op) ∧ w'.cell? ⟨g, o + k * 3 + 1, none⟩ = some (.int .i64 t.a) ∧ w'.cell? ⟨g, o + k * 3 + 2, none⟩ = some (.int .i64 t.b) := by
  obtain ⟨ao', cap', he, hl, hf⟩ := h
  obtain ⟨rfl, rfl, rfl⟩ : ao = ao' ∧ n = ts.length ∧ cap = cap' := by simpa using he
  obtain ⟨hok, g, o, rfl, hr⟩ := hf k t ht
  exact ⟨g, o, rfl, hok, hk.cell (hr 0 _ rfl), hk.cell (hr 1 _ rfl), hk.cell (hr 2 _ rfl)⟩
end Go.Proofs.YthiopkndbicmkaaDoor

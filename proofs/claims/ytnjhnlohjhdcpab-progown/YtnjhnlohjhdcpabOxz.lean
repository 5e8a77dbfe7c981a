/-
  Oxz: Oy, Ox, Oz.
-/
import Derived.Test.YtnjhnlohjhdcpabMc
import Derived.OpenShut
import Derived.Deep.Strs
import Derived.ChangeSlices
import Derived.SizedLaws
import Derived.Test.YtnjhnlohjhdcpabWdz
import Derived.Test.YtnjhnlohjhdcpabOlx
namespace Go.Proofs.Ytnjhnlohjhdcpab
open Go.ChangeShapes Go.WideShapes Go.ChangeAt Go.WideMaps Go.WideElems Go.RowKit Go.Deep
set_option linter.unusedVariables false
set_option linter.unusedSimpArgs false
set_option maxRecDepth 100000

theorem bytes5 : Try.prog.bytesOf 5 = 1 := by kernel_rfl
theorem open_bin {H : Type} {enc : TypeId × Value → H} {W : World} {base : Nat} {v : Value} {d : DataW H} {p : List MemPlace} (hval : Value.okWide Try.prog W .any base 22 v) (h : DataW.Trod enc Try.prog W 0 (fun _ => true) true 22 v d p) :
    ∃ (xs : List Int) (ao : Option Addr) (c : Nat), v = .slice ao xs.length c ∧ IsB W v xs ∧ (v = .slice none 0 0 ∨ ∃ a c, v = .slice (some a) xs.length c ∧ xs.length ≤ c) ∧ (∀ x ∈ xs, 0 ≤ x ∧ x < 256) ∧ (xs = [] ∨ ∃ sp, d = .slice (lits .u8 xs) sp) := by
  obtain ⟨a1, len, cap, rfl⟩ := okWide_slice Try.underlying22 hval
  obtain ⟨fuel, hf⟩ := h
  rcases open_ints Try.underlying22 Try.underlying5 cells5 hf with ⟨hcs, hx⟩ | ⟨a, len', cap', zs, hcs, _, hl, hm, hz, hx, hcell, hwz⟩
  · simp [Value.cells] at hcs
    obtain ⟨rfl, rfl, rfl⟩ := hcs
    exact ⟨[], none, 0, rfl, .inl ⟨rfl, _, _, rfl⟩, .inl rfl, fun x hx => (by cases hx), .inl rfl⟩
  · simp [Value.cells] at hcs
    obtain ⟨rfl, rfl, rfl⟩ := hcs
    simp only [Prod.mk.injEq] at hx
    obtain ⟨rfl, rfl⟩ := hx
    simp only [if_true] at hz
    have hlen : (zs.take len).length = len := by simp; omega
    refine ⟨zs.take len, some a, cap, by rw [hlen], ?_, .inr ⟨a, cap, by rw [hlen], by omega⟩, fun x hx => ?_, .inr ⟨_, rfl⟩⟩
    · by_cases h0 : len = 0
      · exact .inl ⟨by rw [h0]; rfl, some a, cap, by rw [h0]⟩
      · obtain ⟨b, o, spot⟩ := a
        have hspot : spot = none := by simpa [Addr.add] using World.cell?_spot (hcell 0 (by omega))
        subst hspot
        refine .inr ⟨b, o, cap, by rw [hlen], fun i hi => ?_⟩
        rw [hlen] at hi
        have := hcell i (by omega)
        rw [Addr.add_lit] at this
        rw [this]
        simp [List.getD, List.getElem?_take, hi]
    · have hw := hwz x (List.mem_of_mem_take hx)
      have b := bounds_u8 hw
      omega

theorem slice_lt {t e : TypeId} (ht : Try.prog.underlying t = some (.slice e)) {W : World} {base : Nat} {ao : Option Addr} {len cap : Nat} (h : Value.okWide Try.prog W .any base t (.slice ao len cap)) : ∀ g, (Value.slice ao len cap).ownBlock = some g → g < W.heap.size := by
  intro g hg
  cases ao with
  | none => simp [Value.ownBlock] at hg
  | some a =>
    simp only [Value.okWide, ht, Cell.okWide, Cell.ok] at h
    obtain ⟨_, _, _, _, row, cells, hs, _⟩ := h
    have e : a.block = g := by simpa [Value.ownBlock] using hg
    rw [← e]
    rcases Nat.lt_or_ge a.block W.heap.size with hlt | hge
    · exact hlt
    · simp [World.shape?, Array.getElem?_eq_none hge] at hs
end Go.Proofs.Ytnjhnlohjhdcpab

namespace Go.Proofs.Ytnjhnlohjhdcpab
open Go.ChangeShapes Go.WideShapes Go.ChangeAt Go.WideMaps Go.WideElems Go.RowKit Go.Deep
set_option linter.unusedVariables false
set_option linter.unusedSimpArgs false
set_option maxRecDepth 100000

/-- Bytes as they are handed in, as a Reader's source. -/
def SrcR (w : World) (v : Value) (xs : List Int) : Prop := v = .slice none 0 0 ∧ xs = [] ∨ ∃ g, g < w.heap.size ∧ IsR w g v xs ∧ v.ownBlock = some g
theorem SrcR.at {w w' : World} {v : Value} {xs : List Int} (h : SrcR w v xs) (hk : Kept (fun _ => False) w w') (h0 : 0 < w'.heap.size) : ∃ g, g < w'.heap.size ∧ IsR w' g v xs := by
  rcases h with ⟨rfl, rfl⟩ | ⟨g, h1, h2, _⟩
  · exact ⟨0, h0, .inl ⟨rfl, none, .inl rfl, rfl⟩⟩
  · exact ⟨g, Nat.lt_of_lt_of_le h1 hk.size, h2.kept hk (fun f => f)⟩
theorem slice_spot {t e : TypeId} (ht : Try.prog.underlying t = some (.slice e)) {W : World} {base : Nat} {a : Addr} {len cap : Nat} (h : Value.okWide Try.prog W .any base t (.slice (some a) len cap)) : a.spot = none := by
  simp only [Value.okWide, ht, Cell.okWide, Cell.ok] at h
  exact h.2.2.2.1
theorem open_srcR {H : Type} {enc : TypeId × Value → H} {W : World} {base : Nat} {v : Value} {d : DataW H} {p : List MemPlace} (hval : Value.okWide Try.prog W .any base 22 v) (h : DataW.Trod enc Try.prog W 0 (fun _ => true) true 22 v d p) :
    ∃ (xs : List Int) (ao : Option Addr) (c : Nat), v = .slice ao xs.length c ∧ IsB W v xs ∧ SrcR W v xs ∧ (∀ x ∈ xs, 0 ≤ x ∧ x < 256) ∧ (xs = [] ∨ ∃ sp, d = .slice (lits .u8 xs) sp) := by
  obtain ⟨xs, ao, c, rfl, hB, hC, hr, hd⟩ := open_bin hval h
  refine ⟨xs, ao, c, rfl, hB, ?_, hr, hd⟩
  cases ao with
  | none =>
    rcases hC with hC | ⟨a, c', hC, _⟩
    · have hx : xs.length = 0 := by injection hC
      have h0 : xs = [] := List.length_eq_zero_iff.1 hx
      exact .inl ⟨hC, h0⟩
    · cases hC
  | some a =>
    have hlt := slice_lt Try.underlying22 hval a.block (by simp [Value.ownBlock])
    have hsp := slice_spot Try.underlying22 hval
    obtain ⟨fuel, hf⟩ := h
    rcases open_ints Try.underlying22 Try.underlying5 cells5 hf with ⟨hcs, _⟩ | ⟨a', len', cap', zs, hcs, _, hl, hm, hz, hx, hcell, hwz⟩
    · simp [Value.cells] at hcs
    · simp [Value.cells] at hcs
      obtain ⟨rfl, rfl, rfl⟩ := hcs
      obtain ⟨b, o, spot⟩ := a
      simp only at hsp
      subst hsp
      refine .inr ⟨b, hlt, ?_, by simp [Value.ownBlock]⟩
      by_cases h0 : c = 0
      · subst h0
        have hx0 : xs.length = 0 := by omega
        exact .inl ⟨List.length_eq_zero_iff.1 hx0, some ⟨b, o, none⟩, .inr ⟨o, rfl⟩, by rw [hx0]⟩
      · refine .inr ⟨o, c, rfl, hl, by omega, hm, fun i hi => ?_⟩
        rcases hB with ⟨e, _⟩ | ⟨g, o', c', e, hc⟩
        · rw [e] at hi; simp at hi
        · cases e
          exact hc i hi
end Go.Proofs.Ytnjhnlohjhdcpab

namespace Go.Proofs.Ytnjhnlohjhdcpab
open Go.ChangeShapes Go.WideShapes Go.ChangeAt Go.WideMaps Go.WideElems Go.RowKit Go.Deep
set_option linter.unusedVariables false
set_option linter.unusedSimpArgs false
set_option maxRecDepth 100000

theorem cells3' : Try.prog.cellsOf 3 = 1 := by kernel_rfl
theorem cells52 : Try.prog.cellsOf 46 = 2 := by kernel_rfl
theorem laidOut : laidOutB Try.prog = true := by kernel_rfl
section
variable {H : Type} {enc : TypeId × Value → H} {W : World} {base : Nat} {spare : Nat → Bool} {held : Bool}
theorem open_in {fuel : Nat} {cs : List Value} {x : DataW H × List MemPlace} (h : DataW.trod enc Try.prog W base spare held fuel 46 cs = some x) : ∃ y : IN, cs = y.cells ∧ y.Ok := by
  obtain ⟨ys, n, _, _, hl, hlen, hf⟩ := DataW.trod_struct Try.underlying46 h
  rw [cells52] at hl
  match ys, hlen with
  | [y0, y1], _ =>
    have g0 : DataW.trod enc Try.prog W base spare held n 3 ((cs.drop 0).take 1) = some y0 := by simpa [cells3'] using hf 0 _ rfl
    have g1 : DataW.trod enc Try.prog W base spare held n 3 ((cs.drop 1).take 1) = some y1 := by simpa [cells3'] using hf 1 _ rfl
    obtain ⟨k0, e0, _, w0⟩ := DataW.trod_int Try.underlying3 g0
    obtain ⟨k1, e1, _, w1⟩ := DataW.trod_int Try.underlying3 g1
    have b0 := bounds_i64 w0
    have b1 := bounds_i64 w1
    refine ⟨⟨k0, k1⟩, ?_, ⟨⟨b0.1, show k0 < 9223372036854775808 by omega⟩, b1.1, show k1 < 9223372036854775808 by omega⟩⟩
    have q : cs = (cs.drop 0).take 1 ++ (cs.drop 1).take 1 := by
      apply List.ext_getElem?
      intro i
      simp only [List.getElem?_append, List.length_take, List.length_drop, List.getElem?_take, List.getElem?_drop, hl]
      repeat' split
      all_goals (first | (congr 1; omega) | (rw [List.getElem?_eq_none (by omega)]) | omega)
    rw [e0, e1] at q
    rw [q]
    rfl
theorem open_ins {fuel : Nat} {v : Value} {x : DataW H × List MemPlace} (h : DataW.trod enc Try.prog W base spare held fuel 42 [v] = some x) : ∃ ys : List IN, RowI W v ys ∧ (∀ y ∈ ys, y.Ok) ∧ ys.length ≤ 9223372036854775807 := by
  rcases open_slice Try.underlying42 h with ⟨hcs, _⟩ | ⟨a, len, cap, m, n, D, Pl, hcs, hb, hl, hm, hm', _, hel⟩
  · cases hcs
    exact ⟨[], .inl ⟨rfl, none, 0, rfl⟩, by simp, by simp⟩
  · cases hcs
    by_cases h0 : len = 0
    · exact ⟨[], .inl ⟨rfl, some a, cap, by rw [h0]⟩, by simp, by simp⟩
    · have hlm : len ≤ m := by rw [hm']; split <;> omega
      rw [cells52] at hel
      have hin : Inhabited IN := ⟨⟨0, 0⟩⟩
      obtain ⟨f, hf⟩ := choose_lt (n := len) (p := fun i (y : IN) => W.cells? base (a.add (i * 2)) 2 = some y.cells ∧ y.Ok) (fun i hi => by
        obtain ⟨cs', h1, h2⟩ := hel i (by omega)
        obtain ⟨y, rfl, h3⟩ := open_in h2
        exact ⟨y, h1, h3⟩)
      have hcell : ∀ i, i < len → ∀ j, j < 2 → W.cell? ((a.add (i * 2)).add j) = (f i).cells[j]? := fun i hi => (World.cells?_some (hf i hi).1).2.2
      obtain ⟨b, off, spot⟩ := a
      have hc0 : W.cell? (((⟨b, off, spot⟩ : Addr).add (0 * 2)).add 0) = some (.int .i64 (f 0).op) := hcell 0 (by omega) 0 (by omega)
      have hspot : spot = none := by simpa [Addr.add] using World.cell?_spot hc0
      subst hspot
      refine ⟨(List.range len).map f, .inr ⟨b, off, cap, by simp, fun i y hy j u hj => ?_⟩, fun y hy => ?_, by simp; unfold maxLen at hm; omega⟩
      · have hi : i < len := by
          have := (List.getElem?_eq_some_iff.1 hy).1
          simpa using this
        obtain rfl : f i = y := by simpa [hi] using hy
        have hj2 : j < 2 := by
          have := (List.getElem?_eq_some_iff.1 hj).1
          simpa [IN.cells] using this
        have := hcell i hi j hj2
        rw [Addr.add_lit, Addr.add_lit] at this
        rw [this, hj]
      · obtain ⟨i, hi, rfl⟩ := List.mem_map.1 hy
        exact (hf i (List.mem_range.1 hi)).2
end
end Go.Proofs.Ytnjhnlohjhdcpab

/-
  MintReads: the calls that are handed in, opened.
-/
import Derived.Test.YtffabihenhejfaaRows
import Derived.Test.YtffabihenhejfaaRps
import Derived.Test.YtffabihenhejfaaOpen
import Derived.Lib.SmallJoins
import Derived.SizedLaws
namespace Go.Proofs.Ytffabihenhejfaa
open Go.ChangeShapes Go.WideShapes Go.ChangeAt Go.RowKit Go.Deep
set_option linter.unusedVariables false

/-- All that a reading holds is within the form's own reach. -/
def Fits {H : Type} (t : TypeId) (d : DataW H) : Prop := ∀ n ∈ d.weights Try.prog t, n ≤ reachBytes

theorem weights_all {H : Type} {e : TypeId} : ∀ {l : List (DataW H)} {d : DataW H}, d ∈ l → ∀ n ∈ d.weights Try.prog e, n ∈ DataW.weightsAll Try.prog e l
  | d' :: r, d, hd, n, hn => by
    simp only [DataW.weightsAll, List.mem_append]
    rcases List.mem_cons.1 hd with rfl | h
    · exact Or.inl hn
    · exact Or.inr (weights_all h n hn)

theorem bytes5 : Try.prog.bytesOf 5 = 1 := by kernel_rfl

theorem cells85 : Try.prog.cellsOf 85 = 4 := by kernel_rfl

section
variable {H : Type} {enc : TypeId × Value → H} {W : World}

theorem open_src {fuel : Nat} {v : Value} {d : DataW H} {p : List MemPlace} (h : DataW.trod enc Try.prog W 0 (fun _ => true) true fuel 25 [v] = some (d, p)) (hbk : Fits 25 d) :
    ∃ xs : List Int, SrcOk W v xs := by
  rcases open_ints Try.underlying25 Try.underlying5 cells5 h with ⟨hcs, _⟩ | ⟨a, len, cap, zs, hcs, _, hl, hm, hz, hx, hcell, hwz⟩
  · cases hcs
    exact ⟨[], .inl ⟨rfl, _, _, rfl⟩, ⟨fun y hy => (by cases hy), Nat.zero_le _⟩, .inl rfl⟩
  · cases hcs
    simp only [Prod.mk.injEq] at hx
    obtain ⟨rfl, rfl⟩ := hx
    simp only [if_true] at hz
    have hlen : (zs.take len).length = len := by rw [List.length_take]; omega
    have hb1 := hbk (((lits (H := H) .u8 (zs.take len)).length + (lits (H := H) .u8 (zs.drop len)).length) * Try.prog.bytesOf 5) (by simp [DataW.weights, Try.underlying25])
    rw [bytes5] at hb1
    have hlen2 : len ≤ 140737488351232 := by
      simp only [lits, List.length_map, hlen, reachBytes] at hb1
      omega
    refine ⟨zs.take len, ?_, ⟨fun y hy => ?_, by rw [hlen]; exact hlen2⟩, .inr ⟨a, cap, by rw [hlen], by rw [hlen]; exact hl⟩⟩
    · by_cases h0 : len = 0
      · subst h0
        exact .inl ⟨by simp, _, _, rfl⟩
      · obtain ⟨b, off, spot⟩ := a
        have hc := hcell 0 (by omega)
        have hspot : spot = none := by simpa [Addr.add] using World.cell?_spot hc
        subst hspot
        refine .inr ⟨b, off, cap, by rw [hlen], fun i hi => ?_⟩
        rw [hlen] at hi
        have := hcell i (by omega)
        rw [Addr.add_lit] at this
        rw [this]
        simp [List.getD, hi]
    · have := hwz y (List.mem_of_mem_take hy)
      have := bounds_u8 this
      omega

/-- A call that was handed in. -/
def CallOk (W : World) (c : CV) : Prop := (-9223372036854775808 ≤ c.k ∧ c.k ≤ 9223372036854775807) ∧ (-9223372036854775808 ≤ c.n ∧ c.n ≤ 9223372036854775807) ∧ (-9223372036854775808 ≤ c.o ∧ c.o ≤ 9223372036854775807) ∧ SrcOk W c.bv c.xs

set_option maxRecDepth 100000 in
theorem open_call {fuel : Nat} {cs : List Value} {d : DataW H} {p : List MemPlace} (h : DataW.trod enc Try.prog W 0 (fun _ => true) true fuel 85 cs = some (d, p)) (hbk : Fits 85 d) : ∃ y : CV, cs = y.cells ∧ CallOk W y := by
  obtain ⟨y0, y1, y2, y3, n, hx, hl, h0, h1, h2, h3⟩ := Go.Joins.trod_struct4 Try.underlying85 h
  rw [cells85] at hl
  match cs, hl with
  | [c0, c1, c2, c3], _ =>
    have g0 : DataW.trod enc Try.prog W 0 (fun _ => true) true n 3 [c0] = some y0 := by simpa [cells3] using h0
    have g1 : DataW.trod enc Try.prog W 0 (fun _ => true) true n 3 [c1] = some y1 := by simpa [cells3] using h1
    have g2 : DataW.trod enc Try.prog W 0 (fun _ => true) true n 3 [c2] = some y2 := by simpa [cells3] using h2
    have g3 : DataW.trod enc Try.prog W 0 (fun _ => true) true n 25 [c3] = some y3 := by simpa [cells25] using h3
    obtain ⟨k, ek, _, wk⟩ := DataW.trod_int Try.underlying3 g0
    obtain ⟨m, em, _, wm⟩ := DataW.trod_int Try.underlying3 g1
    obtain ⟨o, eo, _, wo⟩ := DataW.trod_int Try.underlying3 g2
    simp only [Prod.mk.injEq] at hx
    have hb3 : Fits 25 y3.1 := fun n hn => by
      have h4 := hx.1
      subst h4
      refine hbk n ?_
      simp only [DataW.weights, Try.underlying85, List.map_cons, List.map_nil, DataW.weightsEach, List.mem_append]
      exact Or.inr (Or.inr (Or.inr (Or.inl hn)))
    obtain ⟨xs, q1⟩ := open_src (d := y3.1) (p := y3.2) g3 hb3
    cases ek
    cases em
    cases eo
    have b0 := bounds_i64 wk
    have b1 := bounds_i64 wm
    have b2 := bounds_i64 wo
    exact ⟨⟨k, m, o, c3, xs⟩, rfl, ⟨b0.1, by dsimp only; omega⟩, ⟨b1.1, by dsimp only; omega⟩, ⟨b2.1, by dsimp only; omega⟩, q1⟩

theorem open_calls {fuel : Nat} {v : Value} {d : DataW H} {p : List MemPlace} (h : DataW.trod enc Try.prog W 0 (fun _ => true) true fuel 32 [v] = some (d, p)) (hbk : Fits 32 d) :
    ∃ (ao : Option Addr) (c : Nat) (calls : List CV), v = .slice ao calls.length c ∧ CallsOk W (.slice ao calls.length c) calls ∧ ∀ i, i < calls.length → SrcOk W (calls.getD i CV.default).bv (calls.getD i CV.default).xs := by
  rcases open_slice Try.underlying32 h with ⟨hcs, _⟩ | ⟨a, len, cap, m, n, D, Pl, hcs, hb, hl, hm, hm', hx, hel⟩
  · cases hcs
    exact ⟨none, 0, [], rfl, ⟨⟨none, 0, rfl, fun i hi => absurd hi (by simp)⟩, fun i hi => absurd hi (by simp)⟩, fun i hi => absurd hi (by simp)⟩
  · cases hcs
    simp only [if_true] at hm'
    simp only [Prod.mk.injEq] at hx
    obtain ⟨hx1, _⟩ := hx
    have hD : ∀ i, i < len → Fits 85 (D i) := fun i hi n hn => by
      subst hx1
      refine hbk n ?_
      simp only [DataW.weights, Try.underlying32, List.mem_cons, List.mem_append]
      exact Or.inr (Or.inl (weights_all (List.mem_map.2 ⟨i, List.mem_range.2 hi, rfl⟩) n hn))
    rw [cells85] at hel
    have hin : Inhabited CV := ⟨CV.default⟩
    obtain ⟨f, hf⟩ := choose_lt (n := len) (p := fun i (y : CV) => W.cells? 0 (a.add (i * 4)) 4 = some y.cells ∧ CallOk W y) (fun i hi => by
      obtain ⟨cs', h1, h2⟩ := hel i (by omega)
      obtain ⟨y, rfl, h3⟩ := open_call h2 (hD i hi)
      exact ⟨y, h1, h3⟩)
    have hcell : ∀ i, i < len → ∀ j, j < 4 → W.cell? ((a.add (i * 4)).add j) = (f i).cells[j]? := fun i hi => (World.cells?_some (hf i hi).1).2.2
    have hlen : ((List.range len).map f).length = len := by simp
    have hget : ∀ i, i < len → ((List.range len).map f).getD i CV.default = f i := by
      intro i hi
      simp [List.getD, hi]
    refine ⟨some a, cap, (List.range len).map f, by rw [hlen], ⟨⟨some a, cap, rfl, fun i hi => ?_⟩, fun i hi => ?_⟩, fun i hi => ?_⟩
    · rw [hlen] at hi
      rw [hget i hi]
      obtain ⟨b, off, spot⟩ := a
      have hc0 : W.cell? (((⟨b, off, spot⟩ : Addr).add (0 * 4)).add 0) = some (.int .i64 (f 0).k) := hcell 0 (by omega) 0 (by omega)
      have hspot : spot = none := by simpa [Addr.add] using World.cell?_spot hc0
      subst hspot
      have k0 := hcell i hi 0 (by omega)
      have k1 := hcell i hi 1 (by omega)
      have k2 := hcell i hi 2 (by omega)
      have k3 := hcell i hi 3 (by omega)
      rw [Addr.add_lit, Addr.add_lit] at k0 k1 k2 k3
      exact ⟨b, off, rfl, k0, k1, k2, k3⟩
    · rw [hlen] at hi
      rw [hget i hi]
      obtain ⟨h1, h2, h3, h4⟩ := (hf i hi).2
      exact ⟨h1, h2, h3, h4.1, h4.2.1⟩
    · rw [hlen] at hi
      rw [hget i hi]
      exact (hf i hi).2.2.2.2
end
end Go.Proofs.Ytffabihenhejfaa

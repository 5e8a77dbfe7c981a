/-
  Bytes that are handed in, opened, as Decode takes them.
-/
import Derived.Test.YtcpkbajmilkhpaaDoorNop
import Derived.Test.YtcpkbajmilkhpaaDoorNrw
import Derived.Test.YtcpkbajmilkhpaaDoorNly
namespace Go.Proofs.YtcpkbajmilkhpaaDoor
open Go.ChangeShapes Go.WideShapes Go.ChangeAt Go.WideMaps Go.WideElems Go.RowKit
set_option linter.unusedVariables false
set_option linter.unusedSimpArgs false
set_option maxRecDepth 100000

theorem cells5z : Tryd.prog.cellsOf 5 = 1 := by kernel_rfl
theorem bytes5 : Tryd.prog.bytesOf 5 = 1 := by kernel_rfl
theorem open_bin {H : Type} {enc : TypeId × Value → H} {W : World} {base : Nat} {v : Value} {d : DataW H} {p : List MemPlace} (hval : Value.okWide Tryd.prog W .any base 29 v) (h : DataW.Trod enc Tryd.prog W 0 (fun _ => true) true 29 v d p) :
    ∃ (xs : List Int) (ao : Option Addr) (c : Nat), v = .slice ao xs.length c ∧ IsB W v xs ∧ Capd v xs.length ∧ (∀ x ∈ xs, 0 ≤ x ∧ x < 256) ∧ (xs = [] ∨ ∃ sp, d = .slice (lits .u8 xs) sp) := by
  obtain ⟨a1, len, cap, rfl⟩ := okWide_slice Tryd.underlying29 hval
  obtain ⟨fuel, hf⟩ := h
  rcases open_ints Tryd.underlying29 Tryd.underlying5 cells5z hf with ⟨hcs, hx⟩ | ⟨a, len', cap', zs, hcs, _, hl, hm, hz, hx, hcell, hwz⟩
  · simp [Value.cells] at hcs
    obtain ⟨rfl, rfl, rfl⟩ := hcs
    exact ⟨[], none, 0, rfl, .inl ⟨rfl, _, _, rfl⟩, .inl rfl, fun x hx => (by cases hx), .inl rfl⟩
  · simp [Value.cells] at hcs
    obtain ⟨rfl, rfl, rfl⟩ := hcs
    simp only [Prod.mk.injEq] at hx
    obtain ⟨rfl, rfl⟩ := hx
    simp only [if_true] at hz
    have hlen : (zs.take len).length = len := by simp; omega
    refine ⟨zs.take len, some a, cap, by rw [hlen], ?_, .inr ⟨a, cap, by rw [hlen], by omega⟩, fun x hx => ?_, .inr ⟨_, rfl⟩⟩
    · by_cases h0 : len = 0
      · exact .inl ⟨by rw [h0]; rfl, some a, cap, by rw [h0]⟩
      · obtain ⟨b, o, spot⟩ := a
        have hspot : spot = none := by simpa [Addr.add] using World.cell?_spot (hcell 0 (by omega))
        subst hspot
        refine .inr ⟨b, o, cap, by rw [hlen], fun i hi => ?_⟩
        rw [hlen] at hi
        have := hcell i (by omega)
        rw [Addr.add_lit] at this
        rw [this]
        simp [List.getD, List.getElem?_take, hi]
    · have hw := hwz x (List.mem_of_mem_take hx)
      have b := bounds_u8 hw
      omega


theorem laid_pos {W : World} (h : laidMetH Tryd.prog laidT W) : 0 < W.heap.size := by
  rw [laidT, MakeChecks.laidMetH_plain _ _ _ (by kernel_rfl)] at h
  obtain ⟨ps, ⟨g0, t0, cs0, f0, p0, q0, hg0, ht0, hv0, _⟩, _⟩ := h
  unfold World.var? at hv0
  rw [hg0] at hv0
  simp only [Option.bind_some] at hv0
  rcases Nat.eq_zero_or_pos W.heap.size with h0 | h0
  · rw [Array.getElem?_eq_none (by omega)] at hv0
    cases hv0
  · exact h0

theorem open_isr {W : World} {base : Nat} {ao : Option Addr} {c : Nat} {xs : List Int} (hval : Value.okWide Tryd.prog W .any base 29 (.slice ao xs.length c)) (hB : IsB W (.slice ao xs.length c) xs) (h0 : 0 < W.heap.size) : ∃ g, IsR W g (.slice ao xs.length c) xs ∧ g < W.heap.size := by
  have hlt := slice_lt Tryd.underlying29 hval
  cases ao with
  | none =>
    have e : xs = [] ∧ c = 0 := by
      cases hn : xs.length with
      | zero =>
        rw [hn] at hval
        cases c with
        | zero => exact ⟨List.length_eq_zero_iff.1 hn, rfl⟩
        | succ c => simp [Value.okWide, Tryd.underlying29, Cell.okWide, Cell.ok] at hval
      | succ n =>
        rw [hn] at hval
        simp [Value.okWide, Tryd.underlying29, Cell.okWide, Cell.ok] at hval
    obtain ⟨rfl, rfl⟩ := e
    exact ⟨0, .inl ⟨rfl, none, .inl rfl, rfl⟩, h0⟩
  | some a =>
    simp only [Value.okWide, Tryd.underlying29, Cell.okWide, Cell.ok] at hval
    obtain ⟨hlc, hcm, _, hspot, _⟩ := hval
    obtain ⟨b, o, spot⟩ := a
    have hs : spot = none := hspot
    subst hs
    refine ⟨b, ?_, hlt b rfl⟩
    by_cases hc0 : c = 0
    · subst hc0
      have hx : xs = [] := List.length_eq_zero_iff.1 (by omega)
      subst hx
      exact .inl ⟨rfl, some ⟨b, o, none⟩, .inr ⟨o, rfl⟩, rfl⟩
    · refine .inr ⟨o, c, rfl, hlc, by omega, ?_, fun i hi => ?_⟩
      · unfold maxLen
        have : (c : Int) ≤ 9223372036854775807 := hcm
        omega
      · rcases hB with ⟨e, _⟩ | ⟨g', o', c', e, hc⟩
        · rw [e] at hi; simp at hi
        · cases e
          exact hc i hi
end Go.Proofs.YtcpkbajmilkhpaaDoor

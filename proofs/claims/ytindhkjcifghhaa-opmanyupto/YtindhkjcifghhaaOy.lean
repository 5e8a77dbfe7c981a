/-
  Bytes that are handed in, opened.
-/
import Derived.Test.YtindhkjcifghhaaMc
import Derived.OpenShut
import Derived.Deep.Strs
import Derived.ChangeSlices
import Derived.SizedLaws
namespace Go.Proofs.Ytindhkjcifghhaa
open Go.ChangeShapes Go.WideShapes Go.ChangeAt Go.WideMaps Go.WideElems Go.RowKit Go.Deep
set_option linter.unusedVariables false
set_option linter.unusedSimpArgs false
set_option maxRecDepth 100000

theorem bytes5 : Try.prog.bytesOf 5 = 1 := by kernel_rfl
theorem open_bin {H : Type} {enc : TypeId × Value → H} {W : World} {base : Nat} {v : Value} {d : DataW H} {p : List MemPlace} (hval : Value.okWide Try.prog W .any base 36 v) (h : DataW.Trod enc Try.prog W 0 (fun _ => true) true 36 v d p) :
    ∃ (xs : List Int) (ao : Option Addr) (c : Nat), v = .slice ao xs.length c ∧ IsB W v xs ∧ (v = .slice none 0 0 ∨ ∃ a c, v = .slice (some a) xs.length c ∧ xs.length ≤ c) ∧ (∀ x ∈ xs, 0 ≤ x ∧ x < 256) ∧ (xs = [] ∨ ∃ sp, d = .slice (lits .u8 xs) sp) := by
  obtain ⟨a1, len, cap, rfl⟩ := okWide_slice Try.underlying36 hval
  obtain ⟨fuel, hf⟩ := h
  rcases open_ints Try.underlying36 Try.underlying5 cells5 hf with ⟨hcs, hx⟩ | ⟨a, len', cap', zs, hcs, _, hl, hm, hz, hx, hcell, hwz⟩
  · simp [Value.cells] at hcs
    obtain ⟨rfl, rfl, rfl⟩ := hcs
    exact ⟨[], none, 0, rfl, .inl ⟨rfl, _, _, rfl⟩, .inl rfl, fun x hx => (by cases hx), .inl rfl⟩
  · simp [Value.cells] at hcs
    obtain ⟨rfl, rfl, rfl⟩ := hcs
    simp only [Prod.mk.injEq] at hx
    obtain ⟨rfl, rfl⟩ := hx
    simp only [if_true] at hz
    have hlen : (zs.take len).length = len := by simp; omega
    refine ⟨zs.take len, some a, cap, by rw [hlen], ?_, .inr ⟨a, cap, by rw [hlen], by omega⟩, fun x hx => ?_, .inr ⟨_, rfl⟩⟩
    · by_cases h0 : len = 0
      · exact .inl ⟨by rw [h0]; rfl, some a, cap, by rw [h0]⟩
      · obtain ⟨b, o, spot⟩ := a
        have hspot : spot = none := by simpa [Addr.add] using World.cell?_spot (hcell 0 (by omega))
        subst hspot
        refine .inr ⟨b, o, cap, by rw [hlen], fun i hi => ?_⟩
        rw [hlen] at hi
        have := hcell i (by omega)
        rw [Addr.add_lit] at this
        rw [this]
        simp [List.getD, List.getElem?_take, hi]
    · have hw := hwz x (List.mem_of_mem_take hx)
      have b := bounds_u8 hw
      omega

theorem slice_lt {t e : TypeId} (ht : Try.prog.underlying t = some (.slice e)) {W : World} {base : Nat} {ao : Option Addr} {len cap : Nat} (h : Value.okWide Try.prog W .any base t (.slice ao len cap)) : ∀ g, (Value.slice ao len cap).ownBlock = some g → g < W.heap.size := by
  intro g hg
  cases ao with
  | none => simp [Value.ownBlock] at hg
  | some a =>
    simp only [Value.okWide, ht, Cell.okWide, Cell.ok] at h
    obtain ⟨_, _, _, _, row, cells, hs, _⟩ := h
    have e : a.block = g := by simpa [Value.ownBlock] using hg
    rw [← e]
    rcases Nat.lt_or_ge a.block W.heap.size with hlt | hge
    · exact hlt
    · simp [World.shape?, Array.getElem?_eq_none hge] at hs
end Go.Proofs.Ytindhkjcifghhaa

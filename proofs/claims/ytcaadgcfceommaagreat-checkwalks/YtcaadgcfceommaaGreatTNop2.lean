/-
  TNop2: Nop2.
-/
import Derived.Test.YtcaadgcfceommaaGreatTNop
import Derived.Test.YtcaadgcfceommaaGreatTHd
namespace Go.Proofs.YtcaadgcfceommaaGreat
open Go.ChangeShapes Go.WideShapes Go.ChangeAt Go.WideMaps Go.WideElems Go.RowKit Go.Deep
set_option linter.unusedVariables false
set_option linter.unusedSimpArgs false
set_option maxRecDepth 100000

theorem bytes3n : Tryz.prog.bytesOf 3 = 8 := by kernel_rfl
theorem open_nums {H : Type} {enc : TypeId × Value → H} {W : World} {base : Nat} {v : Value} {d : DataW H} {p : List MemPlace} (hval : Value.okWide Tryz.prog W .any base 30 v) (h : DataW.Trod enc Tryz.prog W 0 (fun _ => true) true 30 v d p) (hbk : Fits 30 d) :
    ∃ ns : List Int, RowN W v ns ∧ (∀ x ∈ ns, -9223372036854775808 ≤ x ∧ x < 9223372036854775808) ∧ ns.length ≤ 17592186043904 := by
  obtain ⟨a1, len, cap, rfl⟩ := okWide_slice Tryz.underlying30 hval
  obtain ⟨fuel, hf⟩ := h
  rcases open_ints Tryz.underlying30 Tryz.underlying3 cells3' hf with ⟨hcs, hx⟩ | ⟨a, len', cap', zs, hcs, _, hl, hm, hz, hx, hcell, hwz⟩
  · simp [Value.cells] at hcs
    obtain ⟨rfl, rfl, rfl⟩ := hcs
    exact ⟨[], .inl ⟨rfl, _, _, rfl⟩, fun x hx => (by cases hx), Nat.zero_le _⟩
  · simp [Value.cells] at hcs
    obtain ⟨rfl, rfl, rfl⟩ := hcs
    simp only [Prod.mk.injEq] at hx
    obtain ⟨rfl, rfl⟩ := hx
    simp only [if_true] at hz
    have hlen : (zs.take len).length = len := by rw [List.length_take]; omega
    have hb1 := hbk (((lits (H := H) .i64 (zs.take len)).length + (lits (H := H) .i64 (zs.drop len)).length) * Tryz.prog.bytesOf 3) (by simp [DataW.weights, Tryz.underlying30])
    rw [bytes3n] at hb1
    have hlen2 : len ≤ 17592186043904 := by
      simp only [lits, List.length_map, hlen, reachBytes] at hb1
      omega
    refine ⟨zs.take len, ?_, fun y hy => ?_, by rw [hlen]; exact hlen2⟩
    · by_cases h0 : len = 0
      · subst h0
        exact .inl ⟨by simp, _, _, rfl⟩
      · obtain ⟨b, off, spot⟩ := a
        have hc := hcell 0 (by omega)
        have hspot : spot = none := by simpa [Addr.add] using World.cell?_spot hc
        subst hspot
        refine .inr ⟨b, off, cap, by rw [hlen], World.block_lt_of_cell? W _ hc, fun i x hx => ?_⟩
        have hi : i < len := by
          have := (List.getElem?_eq_some_iff.1 hx).1
          rw [hlen] at this
          exact this
        have h9 := hcell i (by omega)
        rw [Addr.add_lit] at h9
        rw [h9]
        rw [List.getElem?_take, if_pos hi] at hx
        simp [hx]
    · have := hwz y (List.mem_of_mem_take hy)
      have := bounds_i64 this
      omega
end Go.Proofs.YtcaadgcfceommaaGreat

/-
  A list of items that was handed in, opened.
-/
import Derived.Test.YtffabihenhejfabWrites
import Derived.Deep.Strs
import Derived.OpenShut
import Derived.ChangeOld
namespace Go.Proofs.Ytffabihenhejfab
open Go.ChangeShapes Go.WideShapes Go.ChangeAt Go.RowKit Go.Deep
set_option linter.unusedVariables false

theorem cells27 : Try.prog.cellsOf 33 = 3 := by kernel_rfl
theorem cells25 : Try.prog.cellsOf 31 = 1 := by kernel_rfl
theorem cells3 : Try.prog.cellsOf 3 = 1 := by kernel_rfl
theorem cells5 : Try.prog.cellsOf 5 = 1 := by kernel_rfl

section
variable {H : Type} {enc : TypeId × Value → H} {W : World} {base : Nat} {spare : Nat → Bool} {held : Bool}

theorem open_bytes {fuel : Nat} {v : Value} {x : DataW H × List MemPlace} (h : DataW.trod enc Try.prog W base spare held fuel 31 [v] = some x) :
    ∃ xs : List Int, IsB W v xs ∧ (∀ y ∈ xs, 0 ≤ y ∧ y ≤ 255) ∧ xs.length ≤ maxLen := by
  rcases open_ints Try.underlying31 Try.underlying5 cells5 h with ⟨hcs, _⟩ | ⟨a, len, cap, zs, hcs, hb, hl, hm, hz, _, hcell, hwz⟩
  · cases hcs
    exact ⟨[], .inl ⟨rfl, _, _, rfl⟩, fun y hy => (by cases hy), Nat.zero_le _⟩
  · cases hcs
    have hle : len ≤ zs.length := by rw [hz]; split <;> omega
    have hlen : (zs.take len).length = len := by rw [List.length_take]; omega
    refine ⟨zs.take len, ?_, fun y hy => ?_, by rw [hlen]; omega⟩
    · cases len with
      | zero => exact .inl ⟨by simp, _, _, rfl⟩
      | succ len =>
        obtain ⟨b, off, spot⟩ := a
        have hc := hcell 0 (by omega)
        have hspot : spot = none := by simpa [Addr.add] using World.cell?_spot hc
        subst hspot
        refine .inr ⟨b, off, cap, by rw [hlen], fun i hi => ?_⟩
        rw [hlen] at hi
        have := hcell i (by omega)
        rw [Addr.add_lit] at this
        rw [this]
        simp [List.getD, hi]
    · have := hwz y (List.mem_of_mem_take hy)
      have := bounds_u8 this
      omega

set_option maxRecDepth 100000 in
theorem open_item {fuel : Nat} {cs : List Value} {x : DataW H × List MemPlace} (h : DataW.trod enc Try.prog W base spare held fuel 33 cs = some x) : ∃ y : ItV, cs = y.cells ∧ ArgOk W y := by
  obtain ⟨y0, y1, y2, n, _, hl, h0, h1, h2⟩ := trod_struct3 Try.underlying33 h
  rw [cells27] at hl
  match cs, hl with
  | [c0, c1, c2], _ =>
    have g0 : DataW.trod enc Try.prog W base spare held n 3 [c0] = some y0 := by simpa [cells3] using h0
    have g1 : DataW.trod enc Try.prog W base spare held n 3 [c1] = some y1 := by simpa [cells3] using h1
    have g2 : DataW.trod enc Try.prog W base spare held n 31 [c2] = some y2 := by simpa [cells25] using h2
    obtain ⟨k, ek, _, wk⟩ := DataW.trod_int Try.underlying3 g0
    obtain ⟨m, em, _, wm⟩ := DataW.trod_int Try.underlying3 g1
    obtain ⟨xs, q1, q2, q3⟩ := open_bytes g2
    cases ek
    cases em
    have b0 := bounds_i64 wk
    have b1 := bounds_i64 wm
    exact ⟨⟨k, m, c2, xs⟩, rfl, b0.1, b0.2, b1.1, b1.2, q1, q2, q3⟩

theorem open_items {fuel : Nat} {v : Value} {x : DataW H × List MemPlace} (h : DataW.trod enc Try.prog W base spare held fuel 22 [v] = some x) :
    (∃ ao c, v = .slice ao 0 c) ∨ ∃ (b o c : Nat) (arg : List ItV), v = .slice (some ⟨b, o, none⟩) arg.length c ∧ arg.length ≤ maxLen ∧ ArgItems W b o arg ∧ (∀ i, i < arg.length → ArgOk W (arg.getD i ItV.default)) ∧ b < W.heap.size := by
  rcases open_slice Try.underlying22 h with ⟨hcs, _⟩ | ⟨a, len, cap, m, n, D, Pl, hcs, hb, hl, hm, hm', _, hel⟩
  · cases hcs
    exact .inl ⟨_, _, rfl⟩
  · cases hcs
    cases len with
    | zero => exact .inl ⟨_, _, rfl⟩
    | succ len =>
      right
      have hlm : len + 1 ≤ m := by rw [hm']; split <;> omega
      rw [cells27] at hel
      have hin : Inhabited ItV := ⟨ItV.default⟩
      obtain ⟨f, hf⟩ := choose_lt (n := len + 1) (p := fun i (y : ItV) => W.cells? base (a.add (i * 3)) 3 = some y.cells ∧ ArgOk W y) (fun i hi => by
        obtain ⟨cs', h1, h2⟩ := hel i (by omega)
        obtain ⟨y, rfl, h3⟩ := open_item h2
        exact ⟨y, h1, h3⟩)
      have hcell : ∀ i, i < len + 1 → ∀ j, j < 3 → W.cell? ((a.add (i * 3)).add j) = (f i).cells[j]? := fun i hi => (World.cells?_some (hf i hi).1).2.2
      obtain ⟨b, off, spot⟩ := a
      have hc0 : W.cell? (((⟨b, off, spot⟩ : Addr).add (0 * 3)).add 0) = some (.int .i64 (f 0).k) := hcell 0 (by omega) 0 (by omega)
      have hspot : spot = none := by simpa [Addr.add] using World.cell?_spot hc0
      subst hspot
      have hlen : ((List.range (len + 1)).map f).length = len + 1 := by simp
      have hget : ∀ i, i < len + 1 → ((List.range (len + 1)).map f).getD i ItV.default = f i := by
        intro i hi
        simp [List.getD, hi]
      refine ⟨b, off, cap, (List.range (len + 1)).map f, by rw [hlen], by rw [hlen]; omega, fun i hi => ?_, fun i hi => ?_, ?_⟩
      · rw [hlen] at hi
        rw [hget i hi]
        have k0 := hcell i hi 0 (by omega)
        have k1 := hcell i hi 1 (by omega)
        have k2 := hcell i hi 2 (by omega)
        rw [Addr.add_lit, Addr.add_lit] at k0 k1 k2
        exact ⟨k0, k1, k2⟩
      · rw [hlen] at hi
        rw [hget i hi]
        exact (hf i hi).2
      · have := World.block_lt_of_cell? _ _ hc0
        simpa [Addr.add_lit] using this
end

end Go.Proofs.Ytffabihenhejfab

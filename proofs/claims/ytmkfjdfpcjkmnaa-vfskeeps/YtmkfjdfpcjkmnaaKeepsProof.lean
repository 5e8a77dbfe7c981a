/-
  VfsKeeps: the arguments read; the given statement, out of the walk.
-/
import Derived.Test.YtmkfjdfpcjkmnaaVz
import Derived.Test.YtmkfjdfpcjkmnaaRunes
import Derived.Deep.Strs
import Derived.OpenShut
import Derived.ChangeOld
import Derived.ChangeMaps5
import Derived.ChangeSlices
import Derived.Test.YtmkfjdfpcjkmnaaRows
namespace Go.Proofs.Ytmkfjdfpcjkmnaa
namespace vfsKeeps
open Go.ChangeShapes Go.WideShapes Go.ChangeAt Go.RowKit Go.Deep Go.ChangeMaps
set_option linter.unusedVariables false
set_option linter.unusedSimpArgs false
set_option maxRecDepth 100000

theorem own : ownKnob Try.prog.godebug = none := by kernel_rfl
theorem cells50 : Try.prog.cellsOf 50 = 3 := by kernel_rfl
theorem cells33 : Try.prog.cellsOf 33 = 1 := by kernel_rfl
theorem cells3' : Try.prog.cellsOf 3 = 1 := by kernel_rfl
theorem cells4' : Try.prog.cellsOf 4 = 1 := by kernel_rfl
theorem cells5' : Try.prog.cellsOf 5 = 1 := by kernel_rfl
section
variable {H : Type} {enc : TypeId × Value → H} {W : World} {base : Nat} {spare : Nat → Bool} {held : Bool}
theorem open_by {fuel : Nat} {v : Value} {x : DataW H × List MemPlace} (h : DataW.trod enc Try.prog W base spare held fuel 33 [v] = some x) :
    ∃ (xs : List Int) (ao : Option Addr) (cap : Nat), v = .slice ao xs.length cap ∧ xs.length ≤ cap ∧ ∀ j u, (ints xs)[j]? = some u → ∃ g o, ao = some ⟨g, o, none⟩ ∧ W.cell? ⟨g, o + j, none⟩ = some u := by
  rcases open_ints Try.underlying33 Try.underlying5 cells5' h with ⟨hcs, _⟩ | ⟨a, len, cap, zs, hcs, hb, hl, hm, hz, _, hcell, hwz⟩
  · cases hcs
    exact ⟨[], none, 0, rfl, Nat.le_refl _, fun j u hu => by simp [ints] at hu⟩
  · cases hcs
    have hle : len ≤ zs.length := by rw [hz]; split <;> omega
    have hlen : (zs.take len).length = len := by rw [List.length_take]; omega
    refine ⟨zs.take len, some a, cap, by rw [hlen], by omega, fun j u hu => ?_⟩
    have hj : j < len := by
      have := (List.getElem?_eq_some_iff.1 hu).1
      rw [ints_len, hlen] at this
      exact this
    obtain ⟨b, off, spot⟩ := a
    have hc := hcell j (by omega)
    have hc0 := hcell 0 (by omega)
    have hspot : spot = none := by simpa [Addr.add] using World.cell?_spot hc0
    subst hspot
    refine ⟨b, off, rfl, ?_⟩
    rw [Addr.add_mid] at hc
    rw [hc, ← hu]
    simp [ints, List.getD, List.getElem?_take, hj, List.getElem?_eq_getElem (show j < zs.length by omega)]
theorem open_nums {fuel : Nat} {v : Value} {x : DataW H × List MemPlace} (h : DataW.trod enc Try.prog W base spare held fuel 44 [v] = some x) :
    ∃ (xs : List Int) (ao : Option Addr) (cap : Nat), v = .slice ao xs.length cap ∧ xs.length ≤ maxLen ∧ Nums W ao xs := by
  rcases open_ints Try.underlying44 Try.underlying3 cells3' h with ⟨hcs, _⟩ | ⟨a, len, cap, zs, hcs, hb, hl, hm, hz, _, hcell, hwz⟩
  · cases hcs
    exact ⟨[], none, 0, rfl, Nat.zero_le _, fun i y hy => by simp at hy⟩
  · cases hcs
    have hle : len ≤ zs.length := by rw [hz]; split <;> omega
    have hlen : (zs.take len).length = len := by rw [List.length_take]; omega
    refine ⟨zs.take len, some a, cap, by rw [hlen], by omega, fun j y hy => ?_⟩
    have hj : j < len := by
      have := (List.getElem?_eq_some_iff.1 hy).1
      rw [hlen] at this
      exact this
    have hyz : zs[j]? = some y := by rw [List.getElem?_take, if_pos hj] at hy; exact hy
    have hbd := bounds_i64 (hwz y (List.mem_of_getElem? hyz))
    obtain ⟨b, off, spot⟩ := a
    have hc := hcell j (by omega)
    have hc0 := hcell 0 (by omega)
    have hspot : spot = none := by simpa [Addr.add] using World.cell?_spot hc0
    subst hspot
    refine ⟨hbd.1, hbd.2, b, off, rfl, ?_⟩
    rw [Addr.add_mid] at hc
    rw [hc, List.getD, hyz]
    rfl
theorem open_cell {fuel : Nat} {cs : List Value} {x : DataW H × List MemPlace} (h : DataW.trod enc Try.prog W base spare held fuel 50 cs = some x) : ∃ c : Cl, cs = c.cells ∧ c.Ok W := by
  obtain ⟨ys, n, _, _, hl, hlen, hf⟩ := DataW.trod_struct Try.underlying50 h
  rw [cells50] at hl
  match ys, hlen with
  | [y0, y1, y2], _ =>
    have g0 : DataW.trod enc Try.prog W base spare held n 3 ((cs.drop 0).take 1) = some y0 := by simpa [cells3'] using hf 0 _ rfl
    have g1 : DataW.trod enc Try.prog W base spare held n 33 ((cs.drop 1).take 1) = some y1 := by simpa [cells33] using hf 1 _ rfl
    have g2 : DataW.trod enc Try.prog W base spare held n 4 ((cs.drop 2).take 1) = some y2 := by simpa [cells4'] using hf 2 _ rfl
    have e1 : (cs.drop 1).take 1 = [cs[1]'(by omega)] := by rw [List.drop_eq_getElem_cons (by omega)]; rfl
    obtain ⟨hh, e0, _, wk⟩ := DataW.trod_int Try.underlying3 g0
    rw [e1] at g1
    obtain ⟨xs, ao, cap, b1, b2, b3⟩ := open_by g1
    obtain ⟨ct, e2, _⟩ := DataW.trod_bool Try.underlying4 g2
    have wb := bounds_i64 wk
    refine ⟨⟨hh, cs[1]'(by omega), xs, ct⟩, ?_, wb.1, wb.2, ao, cap, b1, b2, b3⟩
    have q : cs = (cs.drop 0).take 1 ++ ((cs.drop 1).take 1 ++ (cs.drop 2).take 1) := by
      apply List.ext_getElem?
      intro i
      simp only [List.getElem?_append, List.length_take, List.length_drop, List.getElem?_take, List.getElem?_drop, hl]
      repeat' split
      all_goals (first | (congr 1; omega) | (rw [List.getElem?_eq_none (by omega)]) | omega)
    rw [e0, e1, e2] at q
    exact q
theorem open_cells {fuel : Nat} {v : Value} {x : DataW H × List MemPlace} (h : DataW.trod enc Try.prog W base spare held fuel 45 [v] = some x) :
    ∃ (cs : List Cl) (bo : Option Addr) (cap : Nat), v = .slice bo cs.length cap ∧ cs.length ≤ maxLen ∧ Cls W bo cs := by
  rcases open_slice Try.underlying45 h with ⟨hcs, _⟩ | ⟨a, len, cap, m, n, D, Pl, hcs, hb, hl, hm, hm', _, hel⟩
  · cases hcs
    exact ⟨[], none, 0, rfl, Nat.zero_le _, fun i t ht => by simp at ht⟩
  · cases hcs
    by_cases h0 : len = 0
    · exact ⟨[], some a, cap, by rw [h0]; rfl, Nat.zero_le _, fun i t ht => by simp at ht⟩
    · have hlm : len ≤ m := by rw [hm']; split <;> omega
      rw [cells50] at hel
      have hin : Inhabited Cl := ⟨⟨0, .slice none 0 0, [], false⟩⟩
      obtain ⟨f, hf⟩ := choose_lt (n := len) (p := fun i (y : Cl) => W.cells? base (a.add (i * 3)) 3 = some y.cells ∧ y.Ok W) (fun i hi => by
        obtain ⟨cs', h1, h2⟩ := hel i (by omega)
        obtain ⟨y, rfl, h3⟩ := open_cell h2
        exact ⟨y, h1, h3⟩)
      have hcell : ∀ i, i < len → ∀ j, j < 3 → W.cell? ((a.add (i * 3)).add j) = (f i).cells[j]? := fun i hi => (World.cells?_some (hf i hi).1).2.2
      obtain ⟨b, off, spot⟩ := a
      have hc0 : W.cell? (((⟨b, off, spot⟩ : Addr).add (0 * 3)).add 0) = some (.int .i64 (f 0).h) := hcell 0 (by omega) 0 (by omega)
      have hspot : spot = none := by simpa [Addr.add] using World.cell?_spot hc0
      subst hspot
      refine ⟨(List.range len).map f, some ⟨b, off, none⟩, cap, by simp, by simp; omega, fun i t ht => ?_⟩
      have hi : i < len := by
        have := (List.getElem?_eq_some_iff.1 ht).1
        simpa using this
      obtain rfl : f i = t := by simpa [hi] using ht
      refine ⟨(hf i hi).2, b, off, rfl, fun j u hj => ?_⟩
      have hj3 : j < 3 := (List.getElem?_eq_some_iff.1 hj).1
      have := hcell i hi j hj3
      rw [Addr.add_mid, Addr.add_mid, hj] at this
      exact this
end
theorem laidOut : laidOutB Try.prog = true := by kernel_rfl
set_option maxRecDepth 100000 in
theorem lifted (os : Os) (started : os.Started) (H : Type) (enc : TypeId × Value → H) :
    ReturnsInHanded {} Try.checked os 4 .any (Rows.vfsKeepsSpec.pre6 enc Try.prog Try.f4 Rows.vfsKeepsRow.domain false) (Rows.vfsKeepsSpec.post enc Try.prog Try.f4 false true false false) := by
  refine returnsInHanded_of_change (C := Try.checked) own started (by kernel_rfl) Try.func4
    (ChangeSpec.witness6 (enc := enc) (C := Try.checked) false ⟨#[], #[.slice none 0 0, .slice none 0 0], []⟩ 8 (by kernel_rfl) (by kernel_rfl) (by kernel_rfl) (by kernel_rfl)) ?_
  intro W base args ds gs before hval0 hW hcnd _
  have hval : ∀ (j : Nat) t v, Try.f4.params[j]? = some t → args[j]? = some v → Value.okWide Try.prog W .any base t v := hval0
  have hW' := hW
  obtain ⟨p, q, hA0, hV, rfl, hfz, hnd⟩ := hW
  have hA : DataW.TrodAll enc Try.prog W 0 (fun _ => true) true Try.f4.params.toList args.toList ds p := hA0
  rw [Try.params4] at hA hval
  obtain ⟨v0, vs0, d0, ds0, p0, q0, hargs, rfl, rfl, h0, r0⟩ := trodAll_cons hA
  obtain ⟨v1, vs1, d1, ds1, p1, q1, hargs1, rfl, rfl, h1, r1⟩ := trodAll_cons r0
  obtain ⟨rfl, rfl, rfl⟩ := trodAll_nil r1
  obtain rfl : args = #[v0, v1] := by cases args; simp_all
  obtain ⟨rfl, rfl⟩ := trodVars_none hV
  have k0 := h0
  have k1 := h1
  have lt0 : ∀ x ∈ p0, x.block < W.heap.size := by obtain ⟨m, hm⟩ := k0; exact DataW.trod_lt m _ _ _ hm
  have lt1 : ∀ x ∈ p1, x.block < W.heap.size := by obtain ⟨m, hm⟩ := k1; exact DataW.trod_lt m _ _ _ hm
  obtain ⟨a0, l0, c0, rfl⟩ := okWide_slice Try.underlying44 (hval 0 44 v0 rfl rfl)
  obtain ⟨a1, l1, c1, rfl⟩ := okWide_slice Try.underlying45 (hval 1 45 v1 rfl rfl)
  obtain ⟨fuel0, hf0⟩ := h0
  obtain ⟨fuel1, hf1⟩ := h1
  have hf0' : DataW.trod enc Try.prog W 0 (fun _ => true) true fuel0 44 [.slice a0 l0 c0] = some (d0, p0) := hf0
  have hf1' : DataW.trod enc Try.prog W 0 (fun _ => true) true fuel1 45 [.slice a1 l1 c1] = some (d1, p1) := hf1
  obtain ⟨ms, ao, mc, hmv, hml, hms⟩ := open_nums hf0'
  cases hmv
  obtain ⟨cs, bo, cc, hcv, hcl, hcs⟩ := open_cells hf1'
  cases hcv
  clear hA0 hval0
  simp only [List.append_nil] at hW'
  refine (keeps_walk highRunes W _ _ _ _ ms cs hms hcs hml hcl).mono fun e W' ⟨he, hk⟩ => ?_
  have bel : Below W.heap.size W W' := hk.below (Nat.le_refl _) (fun _ f => f.elim)
  subst he
  exact ⟨_, rfl, _, _, _, [], _, [], hW', trodAll_mk1 (shut_bool Try.underlying4 _), (trodAll_cons_mk (Below.trod laidOut (by kernel_rfl) (of_decide_eq_true (by kernel_rfl)) k0 bel lt0) (trodAll_cons_mk (Below.trod laidOut (by kernel_rfl) (of_decide_eq_true (by kernel_rfl)) k1 bel lt1) trodAll_mk0)), rfl, bel.frame _, fun h => by cases h⟩

theorem over : Rows.vfsKeepsRow.holds Try.pinned (OpenSpec.ofChange Rows.vfsKeepsSpec) :=
  OpenClaim.holds_of_wide 4 Try.f4 rfl rfl rfl rfl rfl rfl rfl ⟨rfl, rfl, rfl, rfl, rfl⟩ rfl rfl rfl rfl rfl (by kernel_rfl) Try.func4 (by kernel_rfl)
    (of_decide_eq_true (by kernel_rfl)) (by unfold Func.isWrapper; first | (rw [if_pos (by decide +kernel)]; kernel_rfl) | (rw [if_neg (by decide +kernel)]; exact ⟨rfl, rfl⟩))
    (fun os started H enc _ => lifted os started H enc)
end vfsKeeps

theorem vfsKeeps_holds : Rows.VfsKeepsSaid := vfsKeeps.over
#print axioms vfsKeeps_holds
end Go.Proofs.Ytmkfjdfpcjkmnaa

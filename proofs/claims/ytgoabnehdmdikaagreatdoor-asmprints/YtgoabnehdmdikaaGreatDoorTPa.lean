/-
  TPa: Pa.
-/
import Derived.Test.YtgoabnehdmdikaaGreatDoorTOe
import Derived.Test.YtgoabnehdmdikaaGreatDoorTNcl
namespace Go.Proofs.YtgoabnehdmdikaaGreatDoor
open Go.RowKit Go.Deep
set_option linter.unusedVariables false
set_option linter.unusedSimpArgs false
set_option maxRecDepth 100000

/-- An operand is read. -/
def readK : Nat → List Int → Except Int (Int × List Int)
  | 0, xs => .ok (0, xs)
  | 1, xs => intD xs
  | _, xs => numD xs
theorem readK_ge {m : Nat} (h : 2 ≤ m) (xs : List Int) : readK m xs = numD xs := by
  match m, h with
  | n + 2, _ => rfl
/-- An instruction is read. -/
def oneDI (xs : List Int) : Except Int (IN × List Int) :=
  match numD xs with
  | .error f => .error f
  | .ok (op, r1) =>
    if isRow insL op = true then
      match readK (kOf op) r1 with
      | .error f => .error f
      | .ok (a, r2) => if mayP (kOf op) a = true then .ok (⟨op, a⟩, r2) else .error 112
    else .error 111
theorem numD_rest {xs rest : List Int} {u : Int} (hb : BytesOk xs) (h : numD xs = .ok (u, rest)) : BytesOk rest := by
  obtain ⟨hs, _⟩ := numD_split hb.1 h
  have g1 := hb.1
  have g2 := hb.2
  rw [hs] at g1 g2
  exact ⟨fun x hx => g1 x (List.mem_append_right _ hx), by rw [List.length_append] at g2; omega⟩
theorem size52 : (Tryz.prog.info? 75).map (·.size) = some 2 := by kernel_rfl

theorem two_one (a b : Value) (ha : a.oneCell' = true) (hb : b.oneCell' = true) : #[a, b].all (·.oneCell') = true := by
  rw [Array.all_eq_true_iff_forall_mem]
  intro v hv
  simp at hv
  rcases hv with rfl | rfl <;> assumption
/-- What readOne leaves. -/
def OneP (xs : List Int) (r g : Nat) (f : Int) (w : World) : Ending → World → Prop := Outs (oneDI xs) r g f w (fun y e w' => e = .returned (.agg y.cells.toArray) ∧ y.Ok)
theorem OneP.bad {xs : List Int} {r g : Nat} {f flt : Int} {w w1 w2 : World} (h : oneDI xs = .error flt) (hr : Rd w2 r (.slice none 0 0) false flt) (hk : Kept (fun q => q = r) w w1) (hk2 : Kept (fun q => q = r) w1 w2) : OneP xs r g f w (.panicked [{ v := thrownV r, recovered := false }]) w2 := by
  unfold OneP Outs
  rw [h]
  exact ⟨rfl, hr, hk.trans hk2⟩
theorem OneP.good {xs rest : List Int} {r g : Nat} {f : Int} {w w2 : World} {y : IN} (h : oneDI xs = .ok (y, rest)) (hy : y.Ok) (ha : After w w2 r g f rest) : OneP xs r g f w (.returned (.agg y.cells.toArray)) w2 := by
  unfold OneP Outs
  rw [h]
  exact ⟨⟨rfl, hy⟩, ha⟩

end Go.Proofs.YtgoabnehdmdikaaGreatDoor

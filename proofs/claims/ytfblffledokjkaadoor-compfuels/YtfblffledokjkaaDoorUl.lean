/-
  What the row's listed variable gives the walk.
-/
import Derived.Test.YtfblffledokjkaaDoorUk
import Derived.Test.YtfblffledokjkaaDoorRows
import Derived.ProofKit
import Derived.LaidMore
import Derived.OpenShut
import Derived.Stop.Joined
namespace Go.Proofs.YtfblffledokjkaaDoor
open Go.ChangeShapes Go.WideShapes Go.ChangeAt Go.WideMaps Go.WideElems Go.RowKit
set_option linter.unusedVariables false
set_option linter.unusedSimpArgs false

theorem gT : Tryd.prog.globalNamed "retort/cell.takes" = some 0 := by kernel_rfl
theorem tT : (Tryd.prog.globals[0]?).map (·.type) = some 164 := by kernel_rfl
def laidT : List (String × DataW Unit) := [("retort/cell.takes", Rows.laid_retort_cell_takes)]
theorem laid_tk : (Rows.laid_retort_cell_takes : DataW Unit) = .agg (tk.map fun k => .lit (.int .u8 k)) := by kernel_rfl

theorem laid_of {W : World} (h : laidMetH Tryd.prog laidT W) : Laid W := by
  rw [laidT, MakeChecks.laidMetH_plain _ _ _ (by kernel_rfl)] at h
  obtain ⟨ps, ⟨g0, t0, cs0, f0, p0, q0, hg0, ht0, hv0, hd0, _, _⟩, _, _⟩ := h
  obtain rfl := Option.some.inj (gT.symm.trans hg0)
  obtain rfl := Option.some.inj (tT.symm.trans ht0)
  obtain ⟨xs, m1, rfl, hx1, hlen, hn3, hel⟩ := DataW.trod_array Tryd.underlying164 hd0
  intro t ht
  have c5 : Tryd.prog.cellsOf 5 = 1 := by kernel_rfl
  have h0 := hel t ht
  have hxt : xs[t]? = some (xs[t]'(by omega)) := List.getElem?_eq_getElem (by omega)
  obtain ⟨k, e1, e2, _⟩ := DataW.trod_int Tryd.underlying5 (h0.trans hxt)
  have hx2 := congrArg Prod.fst hx1
  rw [laid_tk] at hx2
  simp only [DataW.agg.injEq] at hx2
  have hx3 := congrArg (fun l => l[t]?) hx2
  have hkl : tk.length = 46 := rfl
  simp only [List.getElem?_map, hxt, e2, Option.map_some, List.getElem?_eq_getElem (show t < tk.length by omega)] at hx3
  have hk : tk.getD t 0 = k := by
    rw [List.getD, List.getElem?_eq_getElem (show t < tk.length by omega)]
    simpa using hx3
  rw [hk, World.var?_cell hg0 hv0 t]
  rw [c5, Nat.mul_one] at e1
  have := congrArg (fun l => l[0]?) e1
  simpa [List.getElem?_take, List.getElem?_drop] using this

theorem own : ownKnob Tryd.prog.godebug = none := by kernel_rfl
theorem laidOut : laidOutB Tryd.prog = true := by kernel_rfl
theorem door_met (os : Os) (args : Array Value) : laidMetH Tryd.prog laidT ((World.doorLaid Tryd.prog 400 os).forCall (fun _ _ => 0) ⟨#[], args, []⟩).memory :=
  laidMetH_of_parts3 (fuel := 8) (laidMet_of_run' 8 (by kernel_rfl) (by kernel_rfl)) (by kernel_rfl) (by kernel_rfl)

end Go.Proofs.YtfblffledokjkaaDoor

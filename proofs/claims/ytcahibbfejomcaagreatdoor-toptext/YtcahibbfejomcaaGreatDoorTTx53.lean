import Derived.Test.YtcahibbfejomcaaGreatDoorTTx40
import Derived.Test.YtcahibbfejomcaaGreatDoorTTx47
import Derived.LaidMore
import Derived.OpenShut
import Derived.Stop.Joined
namespace Go.Proofs.YtcahibbfejomcaaGreatDoor
open Go.ChangeShapes Go.WideShapes Go.ChangeAt Go.WideMaps Go.WideElems Go.RowKit
set_option linter.unusedVariables false
set_option linter.unusedSimpArgs false
set_option maxRecDepth 100000
theorem gT : Tryz.prog.globalNamed "retort/sum.turners" = some 0 := by kernel_rfl
theorem tT : (Tryz.prog.globals[0]?).map (·.type) = some 119 := by kernel_rfl
theorem laid_kw : (Rows.laid_retort_sum_turners : DataW Unit) = .agg (kw.map fun k => .lit (.int .u32 k)) := by kernel_rfl
theorem turners_of {W : World} (h : laidMetH Tryz.prog laidT W) : Laid W := by
 rw [laidT, MakeChecks.laidMetH_plain _ _ _ (by kernel_rfl)] at h
 replace h := h.tail.tail.tail.tail.tail.tail
 obtain ⟨ps, ⟨g0, t0, cs0, f0, p0, q0, hg0, ht0, hv0, hd0, _, _⟩, _, _⟩ := h
 obtain rfl := Option.some.inj (gT.symm.trans hg0)
 obtain rfl := Option.some.inj (tT.symm.trans ht0)
 obtain ⟨xs, m1, rfl, hx1, hlen, hn3, hel⟩ := DataW.trod_array Tryz.underlying119 hd0
 intro t ht
 have c46 : Tryz.prog.cellsOf 86 = 1 := by kernel_rfl
 have h0 := hel t ht
 have hxt : xs[t]? = some (xs[t]'(by omega)) := List.getElem?_eq_getElem (by omega)
 obtain ⟨k, e1, e2, _⟩ := DataW.trod_int Tryz.underlying86 (h0.trans hxt)
 have hx2 := congrArg Prod.fst hx1
 rw [laid_kw] at hx2
 simp only [DataW.agg.injEq] at hx2
 have hx3 := congrArg (fun l => l[t]?) hx2
 have hkl : kw.length = 64 := rfl
 simp only [List.getElem?_map, hxt, e2, Option.map_some, List.getElem?_eq_getElem (show t < kw.length by omega)] at hx3
 have hk : kw.getD t 0 = k := by
  rw [List.getD, List.getElem?_eq_getElem (show t < kw.length by omega)]
  simpa using hx3
 rw [hk, World.var?_cell hg0 hv0 t]
 rw [c46, Nat.mul_one] at e1
 have := congrArg (fun l => l[0]?) e1
 simpa [List.getElem?_take, List.getElem?_drop] using this
end Go.Proofs.YtcahibbfejomcaaGreatDoor

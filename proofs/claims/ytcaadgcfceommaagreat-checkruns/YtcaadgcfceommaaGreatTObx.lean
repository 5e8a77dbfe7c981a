import Derived.Test.YtcaadgcfceommaaGreatTOa
import Derived.Deep.DeepCutAuto
import Derived.Deep.CutBlock
namespace Go.Proofs.YtcaadgcfceommaaGreat
open Go.RowKit
set_option linter.unusedVariables false
set_option linter.unusedSimpArgs false
set_option maxRecDepth 100000
theorem results_row_tmp {fn : Func} {p u : Tmp} {ty : TypeId} (h : fn.results = #[.cell p ty, .tmp u]) (tmps : Array Value) (w : World) (a : Addr) (v x : Value)
  (hp : tmps.getD p undef = .pointer (some a)) (hx : tmps.getD u undef = x) (hl : (loadVar ty a).run Tryz.prog w = .ok v w) :
  (results fn tmps).run Tryz.prog w = .ok (.tuple #[v, x]) w := by
 rw [results_cell_tmp h, hp, hx]
 simp [asAddr, Result.andThen, hl]
def isRow (L : List Sh) (n : Int) : Bool := decide (0 ≤ n ∧ n < (L.length : Int))
def rowS (L : List Sh) (n : Int) : Sh := if 0 ≤ n ∧ n < (L.length : Int) then L.getD n.toNat Sh.none else Sh.none
theorem tcells_get (L : List Sh) (n j : Nat) (h : n < L.length) (hj : j < 4) : (tcells L)[n * 4 + j]? = ((L.getD n Sh.none).cells)[j]? := by
 induction L generalizing n with
 | nil => simp at h
 | cons x L ih =>
  have e : tcells (x :: L) = x.cells ++ tcells L := rfl
  cases n with
  | zero =>
   rw [e, List.getElem?_append_left (by simp [Sh.cells]; omega)]
   simp
  | succ n =>
   rw [e, List.getElem?_append_right (by simp [Sh.cells]; omega)]
   have := ih n (by simpa using h)
   simp only [Sh.cells, List.length_cons, List.length_nil, List.getD_cons_succ] at this ⊢
   rw [← this]
   congr 1
   omega
theorem sh_one (s : Sh) : s.cells.toArray.all (·.oneCell') = true := by
 rw [Array.all_eq_true_iff_forall_mem]
 intro v hv
 simp [Sh.cells] at hv
 rcases hv with rfl | rfl | rfl | rfl <;> rfl
theorem size24 : (Tryz.prog.info? 134).map (·.size) = some 4 := by kernel_rfl
theorem box_kept {S : Nat → Prop} {w w' : World} {B : Nat} {o : Obj} (h : Kept S w w') (hb : w.heap[B]? = some o) (hs : ¬ S B) : w'.heap[B]? = some o := (h.block B (Array.getElem?_eq_some_iff.1 hb).1 hs).trans hb
theorem row_at {L : List Sh} {k : Nat} (h : k < L.length) : rowS L (k : Int) = L.getD k Sh.none ∧ isRow L (k : Int) = true := by
 have h' : 0 ≤ (k : Int) ∧ (k : Int) < (L.length : Int) := by omega
 unfold rowS isRow
 rw [if_pos h', decide_eq_true h']
 exact ⟨by simp, rfl⟩
theorem sh_lit (nm : ByteArray) (o t g : Int) : (Sh.mk nm o t g).cells.toArray = #[.string nm, .int .i64 o, .int .i64 t, .int .i64 g] := rfl
end Go.Proofs.YtcaadgcfceommaaGreat

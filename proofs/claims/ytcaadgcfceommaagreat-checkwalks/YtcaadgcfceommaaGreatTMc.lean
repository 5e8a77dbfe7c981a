/-
  TMc: Mc.
-/
import Derived.Test.YtcaadgcfceommaaGreatTMb
import Derived.LaidEqlPtr
import Derived.Deep.RegionLaw
import Derived.Laws.IdiomStrings
namespace Go.Proofs.YtcaadgcfceommaaGreat
open Go.RowKit
set_option linter.unusedVariables false

end Go.Proofs.YtcaadgcfceommaaGreat

namespace Go.Proofs.YtcaadgcfceommaaGreat
open Go.RowKit
set_option linter.unusedVariables false

/-- What is thrown for a Reader. -/
def thrownV (r : Nat) : Value := .iface 213 (.agg #[.pointer (some ⟨r, 0, none⟩)])
/-- A fault was met: it is thrown, and the Reader is no longer live. -/
def Threw (r : Nat) (w : World) (e : Ending) (w' : World) : Prop :=
  ∃ flt : Int, flt ≠ 0 ∧ e = .panicked [{ v := thrownV r, recovered := false }] ∧ Rd w' r (.slice none 0 0) false flt ∧ Kept (fun k => k = r) w w'

theorem Rd.fail {w : World} {r : Nat} {v : Value} {f e : Int} (h : Rd w r v true f) : Rd (((w.setCell ⟨r, 1, none⟩ (.bool false)).setCell ⟨r, 0, none⟩ (.slice none 0 0)).setCell ⟨r, 2, none⟩ (.int .i64 e)) r (.slice none 0 0) false e := by
  unfold Rd
  rw [set_block _ _ _ _ _ _ (set_block _ _ _ _ _ _ (set_block _ _ _ _ _ _ h _) _)]
  rfl

theorem Threw.behind {r : Nat} {w w1 w' : World} {e : Ending} (h : Threw r w1 e w') (hk : Kept (fun k => k = r) w w1) : Threw r w e w' := by
  obtain ⟨flt, h0, h1, h2, h3⟩ := h
  exact ⟨flt, h0, h1, h2, hk.trans h3⟩

end Go.Proofs.YtcaadgcfceommaaGreat

namespace Go.Proofs.YtcaadgcfceommaaGreat
open Go.RowKit
set_option linter.unusedVariables false

end Go.Proofs.YtcaadgcfceommaaGreat

namespace Go.Proofs.YtcaadgcfceommaaGreat
open Go.RowKit
set_option linter.unusedVariables false

end Go.Proofs.YtcaadgcfceommaaGreat

namespace Go.Proofs.YtcaadgcfceommaaGreat
open Go.RowKit
set_option linter.unusedVariables false

end Go.Proofs.YtcaadgcfceommaaGreat

namespace Go.Proofs.YtcaadgcfceommaaGreat
open Go.RowKit
set_option linter.unusedVariables false

/-- That fault was met: it is thrown, and the Reader is no longer live. -/
def ThrewF (r : Nat) (flt : Int) (w : World) (e : Ending) (w' : World) : Prop :=
  e = .panicked [{ v := thrownV r, recovered := false }] ∧ Rd w' r (.slice none 0 0) false flt ∧ Kept (fun k => k = r) w w'

theorem ThrewF.behind {r : Nat} {flt : Int} {w w1 w' : World} {e : Ending} (h : ThrewF r flt w1 e w') (hk : Kept (fun k => k = r) w w1) : ThrewF r flt w e w' := ⟨h.1, h.2.1, hk.trans h.2.2⟩

end Go.Proofs.YtcaadgcfceommaaGreat

namespace Go.Proofs.YtcaadgcfceommaaGreat
open Go.RowKit
set_option linter.unusedVariables false

end Go.Proofs.YtcaadgcfceommaaGreat

namespace Go.Proofs.YtcaadgcfceommaaGreat
open Go.RowKit
set_option linter.unusedVariables false

/-- A Reader that is no longer live. -/
def Dead (w : World) (r : Nat) : Prop := ∃ f : Int, Rd w r (.slice none 0 0) false f

theorem Dead.kept {w w' : World} {r : Nat} {S : Nat → Prop} (h : Dead w r) (hk : Kept S w w') (hS : ¬ S r) : Dead w' r := by
  obtain ⟨f, h⟩ := h
  exact ⟨f, h.kept hk hS⟩

end Go.Proofs.YtcaadgcfceommaaGreat

namespace Go.Proofs.YtcaadgcfceommaaGreat
open Go.RowKit
set_option linter.unusedVariables false

end Go.Proofs.YtcaadgcfceommaaGreat

namespace Go.Proofs.YtcaadgcfceommaaGreat
open Go.RowKit
set_option linter.unusedVariables false

end Go.Proofs.YtcaadgcfceommaaGreat

namespace Go.Proofs.YtcaadgcfceommaaGreat
open Go.RowKit
set_option linter.unusedVariables false

/-- A call of a script. -/
structure CV where
  k : Int
  n : Int
  o : Int
  bv : Value
  xs : List Int
def CV.default : CV := ⟨0, 0, 0, .slice none 0 0, []⟩
def CV.cells (c : CV) : List Value := [.int .i64 c.k, .int .i64 c.n, .int .i64 c.o, c.bv]

end Go.Proofs.YtcaadgcfceommaaGreat

namespace Go.Proofs.YtcaadgcfceommaaGreat
open Go.RowKit
set_option linter.unusedVariables false

section
variable {P : Program} {w : World}
end

def ItV.enc (x : ItV) : List Int := itemBytes x.k x.n x.xs
/-- What was told of an item: it is that item, as far as its kind says. -/
def Told (w0 w : World) (tv lv : Value) (x y : ItV) : Prop :=
  y.k = x.k ∧ (x.k ≤ 3 → y.n = x.n) ∧ (3 < x.k → y.xs = x.xs) ∧ IsB w y.bv y.xs ∧ ∀ q, y.bv.ownBlock = some q → w0.heap.size ≤ q ∧ q < w.heap.size ∧ tv.ownBlock ≠ some q ∧ lv.ownBlock ≠ some q

theorem Told.kept {w0 w w' : World} {tv lv : Value} {x y : ItV} {S : Nat → Prop} (h : Told w0 w tv lv x y) (hk : Kept S w w') (hS : ∀ q, w0.heap.size ≤ q → q < w.heap.size → tv.ownBlock ≠ some q → lv.ownBlock ≠ some q → ¬ S q) : Told w0 w' tv lv x y := by
  obtain ⟨h1, h2, h3, h4, h5⟩ := h
  exact ⟨h1, h2, h3, h4.kept hk (fun q hq => hS q (h5 q hq).1 (h5 q hq).2.1 (h5 q hq).2.2.1 (h5 q hq).2.2.2), fun q hq => ⟨(h5 q hq).1, Nat.lt_of_lt_of_le (h5 q hq).2.1 hk.size, (h5 q hq).2.2⟩⟩

theorem Tryz.info3 : (Tryz.prog.info? 3).map (fun i => (i.zero, i.size, i.bytes)) = some (some (.int .i64 0), 1, 8) := by kernel_rfl
end Go.Proofs.YtcaadgcfceommaaGreat

namespace Go.Proofs.YtcaadgcfceommaaGreat

/-- Bytes, and not too many. -/
def BytesOk (xs : List Int) : Prop := (∀ x ∈ xs, 0 ≤ x ∧ x ≤ 255) ∧ xs.length ≤ 140737488351232
end Go.Proofs.YtcaadgcfceommaaGreat

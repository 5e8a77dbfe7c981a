/-
  TObx: Obx.
-/
import Derived.Test.YtgoabnehdmdikaaGreatDoorTOa
import Derived.Deep.DeepCutAuto
import Derived.Deep.CutBlock
namespace Go.Proofs.YtgoabnehdmdikaaGreatDoor
open Go.RowKit
set_option linter.unusedVariables false
set_option linter.unusedSimpArgs false
set_option maxRecDepth 100000

theorem results_row_tmp {fn : Func} {p u : Tmp} {ty : TypeId} (h : fn.results = #[.cell p ty, .tmp u]) (tmps : Array Value) (w : World) (a : Addr) (v x : Value)
    (hp : tmps.getD p undef = .pointer (some a)) (hx : tmps.getD u undef = x) (hl : (loadVar ty a).run Tryz.prog w = .ok v w) :
    (results fn tmps).run Tryz.prog w = .ok (.tuple #[v, x]) w := by
  rw [results_cell_tmp h, hp, hx]
  simp [asAddr, Result.andThen, hl]

/-- Is there a row of this number? -/
def isRow (L : List Sh) (n : Int) : Bool := decide (0 ≤ n ∧ n < (L.length : Int))
/-- The row, or the empty one. -/
def rowS (L : List Sh) (n : Int) : Sh := if 0 ≤ n ∧ n < (L.length : Int) then L.getD n.toNat Sh.none else Sh.none
theorem tcells_length (L : List Sh) : (tcells L).length = 4 * L.length := by
  induction L with
  | nil => rfl
  | cons x L ih => simp [tcells, Sh.cells] at ih ⊢; omega
theorem tcells_get (L : List Sh) (n j : Nat) (h : n < L.length) (hj : j < 4) : (tcells L)[n * 4 + j]? = ((L.getD n Sh.none).cells)[j]? := by
  induction L generalizing n with
  | nil => simp at h
  | cons x L ih =>
    have e : tcells (x :: L) = x.cells ++ tcells L := rfl
    cases n with
    | zero =>
      rw [e, List.getElem?_append_left (by simp [Sh.cells]; omega)]
      simp
    | succ n =>
      rw [e, List.getElem?_append_right (by simp [Sh.cells]; omega)]
      have := ih n (by simpa using h)
      simp only [Sh.cells, List.length_cons, List.length_nil, List.getD_cons_succ] at this ⊢
      rw [← this]
      congr 1
      omega
theorem sh_one (s : Sh) : s.cells.toArray.all (·.oneCell') = true := by
  rw [Array.all_eq_true_iff_forall_mem]
  intro v hv
  simp [Sh.cells] at hv
  rcases hv with rfl | rfl | rfl | rfl <;> rfl
theorem size24 : (Tryz.prog.info? 186).map (·.size) = some 4 := by kernel_rfl

end Go.Proofs.YtgoabnehdmdikaaGreatDoor

namespace Go.Proofs.YtgoabnehdmdikaaGreatDoor
open Go.RowKit
set_option linter.unusedVariables false
set_option linter.unusedSimpArgs false
set_option maxRecDepth 100000

theorem txt_eq {a b : ByteArray} (h : (a.toList == b.toList) = true) : a = b := by
  have e : a.data.toList = b.data.toList := by
    have := eq_of_beq h
    rwa [ByteArray.toList_eq, ByteArray.toList_eq] at this
  cases a
  cases b
  exact congrArg _ (Array.toList_inj.1 e)
theorem txt_ne {a b : ByteArray} (h : (a.toList == b.toList) = false) : a ≠ b := fun e => by
  subst e
  simp at h
/-- Where the first row of a name lies. -/
def nameIx (L : List Sh) (s : ByteArray) : Nat := L.findIdx (fun x => decide (x.nm = s))
/-- What a table's search tells. -/
def namedV (L : List Sh) (s : ByteArray) : Value := if nameIx L s < L.length then .tuple #[.int .i64 (nameIx L s : Nat), .bool true] else .tuple #[.int .i64 0, .bool false]
theorem named_at {L : List Sh} {s : ByteArray} {k : Nat} (hk : k < L.length) (h0 : ∀ j, j < k → (L.getD j Sh.none).nm ≠ s) (h1 : (L.getD k Sh.none).nm = s) : namedV L s = .tuple #[.int .i64 (k : Nat), .bool true] := by
  have e : nameIx L s = k := by
    unfold nameIx
    rw [List.findIdx_eq hk]
    refine ⟨decide_eq_true ?_, fun j hj => decide_eq_false ?_⟩
    · rw [← h1]
      simp [List.getD, List.getElem?_eq_getElem hk]
    · have := h0 j hj
      simpa [List.getD, List.getElem?_eq_getElem (show j < L.length by omega)] using this
  unfold namedV
  rw [e, if_pos hk]
theorem named_none {L : List Sh} {s : ByteArray} (h0 : ∀ j, j < L.length → (L.getD j Sh.none).nm ≠ s) : namedV L s = .tuple #[.int .i64 0, .bool false] := by
  have e : nameIx L s = L.length := by
    unfold nameIx
    rw [List.findIdx_eq_length]
    intro x hx
    obtain ⟨j, hj, rfl⟩ := List.getElem_of_mem hx
    have := h0 j hj
    exact decide_eq_false (by simpa [List.getD, List.getElem?_eq_getElem hj] using this)
  unfold namedV
  rw [e, if_neg (Nat.lt_irrefl _)]

theorem tab_range {L : List Sh} {w : World} {g t k : Nat} (hg : w.heap[g]? = some (.cells (tcells L).toArray t (0, 0))) (hk : k < L.length) : w.rangeAt g (k * 4) (L.getD k Sh.none).cells := fun j v hv => by
  have hj : j < 4 := by
    have := (List.getElem?_eq_some_iff.1 hv).1
    simpa [Sh.cells] using this
  rw [cell_block _ _ _ _ _ _ hg]
  have := tcells_get L k j hk hj
  rw [hv] at this
  simpa using this

theorem box_kept {S : Nat → Prop} {w w' : World} {B : Nat} {o : Obj} (h : Kept S w w') (hb : w.heap[B]? = some o) (hs : ¬ S B) : w'.heap[B]? = some o := (h.block B (Array.getElem?_eq_some_iff.1 hb).1 hs).trans hb

end Go.Proofs.YtgoabnehdmdikaaGreatDoor

namespace Go.Proofs.YtgoabnehdmdikaaGreatDoor
open Go.RowKit
set_option linter.unusedVariables false
set_option linter.unusedSimpArgs false
set_option maxRecDepth 100000

/-- Small letters and digits, a letter first. -/
def Letters (s : ByteArray) : Prop := 0 < s.size ∧ s.size ≤ 100 ∧ ∀ k (h : k < s.size), (97 ≤ (s[k]'h).toNat ∧ (s[k]'h).toNat ≤ 122) ∨ (k ≠ 0 ∧ 48 ≤ (s[k]'h).toNat ∧ (s[k]'h).toNat ≤ 134)

theorem ins_letters : ∀ i, i < 46 → Letters (insL.getD i Sh.none).nm := by
  intro i hi
  unfold Letters
  revert i
  decide +kernel
theorem sys_letters : ∀ i, i < 5 → Letters (sysL.getD i Sh.none).nm := by
  intro i hi
  unfold Letters
  revert i
  decide +kernel

theorem ins_ix : ∀ i, i < 46 → nameIx insL (insL.getD i Sh.none).nm = i := by
  intro i hi
  revert i
  decide +kernel
theorem sys_ix : ∀ i, i < 5 → nameIx sysL (sysL.getD i Sh.none).nm = i := by
  intro i hi
  revert i
  decide +kernel
theorem ins_named (i : Nat) (h : i < 46) : namedV insL (insL.getD i Sh.none).nm = .tuple #[.int .i64 (i : Nat), .bool true] := by
  unfold namedV
  rw [ins_ix i h, if_pos (show i < insL.length from h)]
theorem sys_named (i : Nat) (h : i < 5) : namedV sysL (sysL.getD i Sh.none).nm = .tuple #[.int .i64 (i : Nat), .bool true] := by
  unfold namedV
  rw [sys_ix i h, if_pos (show i < sysL.length from h)]
theorem row_at {L : List Sh} {k : Nat} (h : k < L.length) : rowS L (k : Int) = L.getD k Sh.none ∧ isRow L (k : Int) = true := by
  have h' : 0 ≤ (k : Int) ∧ (k : Int) < (L.length : Int) := by omega
  unfold rowS isRow
  rw [if_pos h', decide_eq_true h']
  exact ⟨by simp, rfl⟩
theorem ix_unlike {L : List Sh} (hx : ∀ i, i < L.length → nameIx L (L.getD i Sh.none).nm = i) {i j : Nat} (hi : i < L.length) (hj : j < i) : ((L.getD i Sh.none).nm.toList == (L.getD j Sh.none).nm.toList) = false := by
  by_cases e : ((L.getD i Sh.none).nm.toList == (L.getD j Sh.none).nm.toList) = true
  · have h1 := hx i hi
    rw [txt_eq e, hx j (by omega)] at h1
    omega
  · simpa using e
theorem sh_lit (nm : ByteArray) (o t g : Int) : (Sh.mk nm o t g).cells.toArray = #[.string nm, .int .i64 o, .int .i64 t, .int .i64 g] := rfl

end Go.Proofs.YtgoabnehdmdikaaGreatDoor

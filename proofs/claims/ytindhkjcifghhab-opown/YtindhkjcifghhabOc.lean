/-
  Of, Sys, Named, SysNamed by contract.
-/
import Derived.Test.YtindhkjcifghhabOb
import Derived.Deep.DeepCutAuto
import Derived.Deep.CutBlock
namespace Go.Proofs.Ytindhkjcifghhab
open Go.RowKit
set_option linter.unusedVariables false
set_option linter.unusedSimpArgs false
set_option maxRecDepth 100000

theorem txt_eq {a b : ByteArray} (h : (a.toList == b.toList) = true) : a = b := by
  have e : a.data.toList = b.data.toList := by
    have := eq_of_beq h
    rwa [ByteArray.toList_eq, ByteArray.toList_eq] at this
  cases a
  cases b
  exact congrArg _ (Array.toList_inj.1 e)
theorem txt_ne {a b : ByteArray} (h : (a.toList == b.toList) = false) : a ≠ b := fun e => by
  subst e
  simp at h
/-- Where the first row of a name lies. -/
def nameIx (L : List Sh) (s : ByteArray) : Nat := L.findIdx (fun x => decide (x.nm = s))
/-- What a table's search tells. -/
def namedV (L : List Sh) (s : ByteArray) : Value := if nameIx L s < L.length then .tuple #[.int .i64 (nameIx L s : Nat), .bool true] else .tuple #[.int .i64 0, .bool false]
theorem named_at {L : List Sh} {s : ByteArray} {k : Nat} (hk : k < L.length) (h0 : ∀ j, j < k → (L.getD j Sh.none).nm ≠ s) (h1 : (L.getD k Sh.none).nm = s) : namedV L s = .tuple #[.int .i64 (k : Nat), .bool true] := by
  have e : nameIx L s = k := by
    unfold nameIx
    rw [List.findIdx_eq hk]
    refine ⟨decide_eq_true ?_, fun j hj => decide_eq_false ?_⟩
    · rw [← h1]
      simp [List.getD, List.getElem?_eq_getElem hk]
    · have := h0 j hj
      simpa [List.getD, List.getElem?_eq_getElem (show j < L.length by omega)] using this
  unfold namedV
  rw [e, if_pos hk]
theorem named_none {L : List Sh} {s : ByteArray} (h0 : ∀ j, j < L.length → (L.getD j Sh.none).nm ≠ s) : namedV L s = .tuple #[.int .i64 0, .bool false] := by
  have e : nameIx L s = L.length := by
    unfold nameIx
    rw [List.findIdx_eq_length]
    intro x hx
    obtain ⟨j, hj, rfl⟩ := List.getElem_of_mem hx
    have := h0 j hj
    exact decide_eq_false (by simpa [List.getD, List.getElem?_eq_getElem hj] using this)
  unfold namedV
  rw [e, if_neg (Nat.lt_irrefl _)]

theorem tab_range {L : List Sh} {w : World} {g t k : Nat} (hg : w.heap[g]? = some (.cells (tcells L).toArray t (0, 0))) (hk : k < L.length) : w.rangeAt g (k * 4) (L.getD k Sh.none).cells := fun j v hv => by
  have hj : j < 4 := by
    have := (List.getElem?_eq_some_iff.1 hv).1
    simpa [Sh.cells] using this
  rw [cell_block _ _ _ _ _ _ hg]
  have := tcells_get L k j hk hj
  rw [hv] at this
  simpa using this

theorem box_kept {S : Nat → Prop} {w w' : World} {B : Nat} {o : Obj} (h : Kept S w w') (hb : w.heap[B]? = some o) (hs : ¬ S B) : w'.heap[B]? = some o := (h.block B (Array.getElem?_eq_some_iff.1 hb).1 hs).trans hb

end Go.Proofs.Ytindhkjcifghhab

/-
  letters by contract; OpWords.
-/
import Derived.Test.YtindhkjcifghhabOc
namespace Go.Proofs.Ytindhkjcifghhab
open Go.RowKit
set_option linter.unusedVariables false
set_option linter.unusedSimpArgs false
set_option maxRecDepth 100000

/-- Small letters and digits, a letter first. -/
def Letters (s : ByteArray) : Prop := 0 < s.size ∧ s.size ≤ 100 ∧ ∀ k (h : k < s.size), (97 ≤ (s[k]'h).toNat ∧ (s[k]'h).toNat ≤ 122) ∨ (k ≠ 0 ∧ 48 ≤ (s[k]'h).toNat ∧ (s[k]'h).toNat ≤ 82)

theorem ins_letters : ∀ i, i < 46 → Letters (insL.getD i Sh.none).nm := by
  intro i hi
  unfold Letters
  revert i
  decide +kernel
theorem sys_letters : ∀ i, i < 5 → Letters (sysL.getD i Sh.none).nm := by
  intro i hi
  unfold Letters
  revert i
  decide +kernel

theorem ins_ix : ∀ i, i < 46 → nameIx insL (insL.getD i Sh.none).nm = i := by
  intro i hi
  revert i
  decide +kernel
theorem sys_ix : ∀ i, i < 5 → nameIx sysL (sysL.getD i Sh.none).nm = i := by
  intro i hi
  revert i
  decide +kernel
theorem ins_named (i : Nat) (h : i < 46) : namedV insL (insL.getD i Sh.none).nm = .tuple #[.int .i64 (i : Nat), .bool true] := by
  unfold namedV
  rw [ins_ix i h, if_pos (show i < insL.length from h)]
theorem sys_named (i : Nat) (h : i < 5) : namedV sysL (sysL.getD i Sh.none).nm = .tuple #[.int .i64 (i : Nat), .bool true] := by
  unfold namedV
  rw [sys_ix i h, if_pos (show i < sysL.length from h)]
theorem row_at {L : List Sh} {k : Nat} (h : k < L.length) : rowS L (k : Int) = L.getD k Sh.none ∧ isRow L (k : Int) = true := by
  have h' : 0 ≤ (k : Int) ∧ (k : Int) < (L.length : Int) := by omega
  unfold rowS isRow
  rw [if_pos h', decide_eq_true h']
  exact ⟨by simp, rfl⟩
theorem ix_unlike {L : List Sh} (hx : ∀ i, i < L.length → nameIx L (L.getD i Sh.none).nm = i) {i j : Nat} (hi : i < L.length) (hj : j < i) : ((L.getD i Sh.none).nm.toList == (L.getD j Sh.none).nm.toList) = false := by
  by_cases e : ((L.getD i Sh.none).nm.toList == (L.getD j Sh.none).nm.toList) = true
  · have h1 := hx i hi
    rw [txt_eq e, hx j (by omega)] at h1
    omega
  · simpa using e
theorem sh_lit (nm : ByteArray) (o t g : Int) : (Sh.mk nm o t g).cells.toArray = #[.string nm, .int .i64 o, .int .i64 t, .int .i64 g] := rfl

end Go.Proofs.Ytindhkjcifghhab

/-
  TBk: Bk.
-/
import Derived.Test.YtgoabnehdmdikaaGreatDoorTBj
import Derived.Test.YtgoabnehdmdikaaGreatDoorTQc
import Derived.Deep.QuietTactic
import Derived.BigQuiet
namespace Go.Proofs.YtgoabnehdmdikaaGreatDoor
open Go.RowKit
set_option linter.unusedVariables false
set_option linter.unusedSimpArgs false
set_option maxRecDepth 100000

theorem mem_cells (m : Int) : Lib.strCells ((⟨#[109, 101, 109, 111, 114, 121, 32]⟩ : ByteArray) ++ decS m ++ ⟨#[10]⟩) = memY ++ numZ m ++ [.int .u8 10] := by
  rw [cells_app, cells_app, cells_dec]
  rfl
theorem line_cells (k : Nat) (f : FN) : Lib.strCells ((⟨#[102, 117, 110, 99, 32, 102]⟩ : ByteArray) ++ decS (k : Int) ++ ⟨#[32]⟩ ++ decS f.a ++ ⟨#[32]⟩ ++ decS f.l ++ ⟨#[32]⟩ ++ decS f.r ++ ⟨#[10]⟩) = hdF k f 3 ++ [.int .u8 10] := by
  rw [cells_app, cells_app, cells_app, cells_app, cells_app, cells_app, cells_app, cells_app, cells_dec, cells_dec, cells_dec, cells_dec]
  have e : Lib.strCells ⟨#[102, 117, 110, 99, 32, 102]⟩ = Lib.strCells ⟨#[102, 117, 110, 99, 32]⟩ ++ [.int .u8 102] := rfl
  have e2 : Lib.strCells ⟨#[32]⟩ = [Value.int .u8 32] := rfl
  have e3 : Lib.strCells ⟨#[10]⟩ = [Value.int .u8 10] := rfl
  rw [e, e2, e3]
  simp [hdF, numZ]
theorem label_cells (i : Nat) : Lib.strCells ((⟨#[76]⟩ : ByteArray) ++ decS (i : Int) ++ ⟨#[58, 10]⟩) = lblD true i := by
  rw [cells_app, cells_app, cells_dec]
  rfl
theorem instr_cells (op a pl fs : Int) : Lib.strCells ((⟨#[9]⟩ : ByteArray) ++ (rowS insL op).nm ++ opS (rowS insL op) a pl fs ++ ⟨#[10]⟩) = insB op a pl fs := by
  rw [cells_app, cells_app, cells_app, opS_cells]
  rfl
theorem opS_size (op a pl fs : Int) (h0 : -9223372036854775808 ≤ a) (h1 : a < 9223372036854775808) : (opS (rowS insL op) a pl fs).size ≤ 150 := by
  have h := insB_len op a pl fs h0 h1
  have h2 := Lib.strCells_length (opS (rowS insL op) a pl fs)
  rw [opS_cells] at h2
  have h5 : (opdD (rowS insL op) a pl fs).length ≤ 101 := by
    have h2 := itoa_le a h0 (by omega)
    have h4 := sys_small a
    unfold opdD
    split
    · simp
    · split
      · simp [Lib.byteCells_length]; omega
      · split
        · simp [Lib.byteCells_length]; omega
        · split
          · simp only [List.length_cons, bl_cells]; omega
          · simp [Lib.byteCells_length]; omega
  omega
theorem str_cells (l : List Int) (h : ∀ x ∈ l, 0 ≤ x ∧ x ≤ 255) : Lib.strCells (str l) = byts l := by
  have e : (str l).data.toList = l.map (fun n => UInt8.ofNat n.toNat) := by
    unfold str
    rw [fold_data]
    simp
  unfold Lib.strCells byts
  rw [e, List.map_map]
  refine List.map_congr_left (fun x hx => ?_)
  obtain ⟨h0, h1⟩ := h x hx
  simp only [Function.comp, UInt8.toNat_ofNat']
  congr 1
  omega
theorem qa_range (c : Int) (h : 0 ≤ c ∧ c ≤ 255) : ∀ x ∈ qa c, 0 ≤ x ∧ x ≤ 255 := by
  intro x hx
  have hd : ∀ k : Int, 0 ≤ k → k < 16 → 0 ≤ hexd k ∧ hexd k ≤ 255 := fun k h0 h1 => by unfold hexd; split <;> omega
  have h1 := hd (c / 16) (by omega) (by omega)
  have h2 := hd (c % 16) (by omega) (by omega)
  unfold qa at hx
  split at hx
  · simp at hx; omega
  · split at hx
    · simp at hx
      rcases hx with rfl | rfl | rfl | rfl <;> omega
    · simp at hx; omega
theorem quoteA_range (xs : List Int) (hb : ∀ x ∈ xs, 0 ≤ x ∧ x ≤ 255) : ∀ x ∈ quoteA xs, 0 ≤ x ∧ x ≤ 255 := by
  intro x hx
  unfold quoteA at hx
  rcases List.mem_append.1 hx with h | h
  · rcases List.mem_cons.1 h with h | h
    · omega
    · obtain ⟨c, hc, hm⟩ := List.mem_flatMap.1 h
      exact qa_range c (hb c hc) x hm
  · simp at h; omega
theorem data_cells (xs : List Int) (hb : ∀ x ∈ xs, 0 ≤ x ∧ x ≤ 255) : Lib.strCells ((⟨#[100, 97, 116, 97, 32]⟩ : ByteArray) ++ str (quoteA xs) ++ ⟨#[10]⟩) = Lib.strCells ⟨#[100, 97, 116, 97, 32]⟩ ++ byts (quoteA xs) ++ [.int .u8 10] := by
  rw [cells_app, cells_app, str_cells (quoteA xs) (quoteA_range xs hb)]
  rfl
end Go.Proofs.YtgoabnehdmdikaaGreatDoor

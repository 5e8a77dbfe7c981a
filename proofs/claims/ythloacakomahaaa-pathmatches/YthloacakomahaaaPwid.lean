/-
  How wide a rune is, in the reference's words.
-/
import Derived.Test.YthloacakomahaaaPieces
namespace Go.Proofs.Ythloacakomahaaa
set_option linter.unusedVariables false

def bt (l : List UInt8) (k : Nat) : Nat := (l.getD k 0).toNat
def fo (b : Nat) : Bool := decide (128 ≤ b ∧ b ≤ 191)
/-- How many bytes the first one asks for. -/
def asks (c : Nat) : Nat := if 194 ≤ c ∧ c ≤ 223 then 2 else if 224 ≤ c ∧ c ≤ 239 then 3 else if 240 ≤ c ∧ c ≤ 244 then 4 else 1
/-- What the second byte may not be. -/
def off2 (c d : Nat) : Prop := (c = 224 ∧ d < 160) ∨ (c = 237 ∧ 159 < d) ∨ (c = 240 ∧ d < 144) ∨ (c = 244 ∧ 143 < d)

theorem get_bt (l : List UInt8) (k : Nat) : ((⟨l.toArray⟩ : ByteArray).get! k).toNat = bt l k := by
  show ((l.toArray)[k]!).toNat = _
  rw [bt]
  simp [Array.getElem!_eq_getD, List.getD_eq_getElem?_getD]
  rfl
theorem fo_div (b : Nat) : (b / 64 == 2) = fo b := by
  rw [fo, Bool.eq_iff_iff, beq_iff_eq, decide_eq_true_iff]
  omega

def okc (c : Nat) : Bool := Utf8.valid (c : Int)
theorem valid_iff (c : Nat) : (okc c = true) = (c < 55296 ∨ (57344 ≤ c ∧ c ≤ 1114111)) := by
  rw [okc, Utf8.valid]
  simp only [Bool.or_eq_true, Bool.and_eq_true, decide_eq_true_eq, eq_iff_iff]
  omega
theorem wid_eq (l : List UInt8) : wid l = (if bt l 0 < 128 then 1 else if bt l 0 / 32 = 6 ∧ (1 < l.length ∧ fo (bt l 1) = true) then (if 128 ≤ bt l 0 % 32 * 64 + bt l 1 % 64 then 2 else 1)
    else if bt l 0 / 16 = 14 ∧ (1 < l.length ∧ fo (bt l 1) = true) ∧ (2 < l.length ∧ fo (bt l 2) = true) then (if 2048 ≤ bt l 0 % 16 * 4096 + bt l 1 % 64 * 64 + bt l 2 % 64 ∧ okc (bt l 0 % 16 * 4096 + bt l 1 % 64 * 64 + bt l 2 % 64) = true then 3 else 1)
    else if bt l 0 / 8 = 30 ∧ (1 < l.length ∧ fo (bt l 1) = true) ∧ (2 < l.length ∧ fo (bt l 2) = true) ∧ (3 < l.length ∧ fo (bt l 3) = true) then (if 65536 ≤ bt l 0 % 8 * 262144 + bt l 1 % 64 * 4096 + bt l 2 % 64 * 64 + bt l 3 % 64 ∧ okc (bt l 0 % 8 * 262144 + bt l 1 % 64 * 4096 + bt l 2 % 64 * 64 + bt l 3 % 64) = true then 4 else 1) else 1) := by
  unfold wid Lib.decodeL Utf8.decode
  simp only [Nat.zero_add, get_bt, fo_div, show (⟨l.toArray⟩ : ByteArray).size = l.length from rfl]
  simp only [apply_ite Prod.snd, Bool.and_eq_true, beq_iff_eq, decide_eq_true_eq, ge_iff_le, and_assoc]
  rfl

theorem wid_one {l : List UInt8} (h : asks (bt l 0) = 1) (hb : bt l 0 < 256) : wid l = 1 := by
  rw [wid_eq]
  simp only [valid_iff, fo, decide_eq_true_eq]
  unfold asks at h
  generalize bt l 0 = b0 at *
  generalize bt l 1 = b1 at *
  generalize bt l 2 = b2 at *
  generalize bt l 3 = b3 at *
  generalize l.length = n at *
  (repeat' split at h) <;> (repeat' split) <;> omega
theorem wid_short {l : List UInt8} (h : l.length < asks (bt l 0)) : wid l = 1 := by
  rw [wid_eq]
  simp only [valid_iff, fo, decide_eq_true_eq]
  unfold asks at h
  generalize bt l 0 = b0 at *
  generalize bt l 1 = b1 at *
  generalize bt l 2 = b2 at *
  generalize bt l 3 = b3 at *
  generalize l.length = n at *
  (repeat' split at h) <;> (repeat' split) <;> omega
theorem wid_stop {l : List UInt8} {i : Nat} (h1 : 1 ≤ i) (h2 : i < asks (bt l 0)) (h3 : fo (bt l i) = false) : wid l = 1 := by
  have hi : i = 1 ∨ i = 2 ∨ i = 3 := by
    have : asks (bt l 0) ≤ 4 := by unfold asks; (repeat' split) <;> omega
    omega
  rw [wid_eq]
  unfold asks at h2
  rcases hi with rfl | rfl | rfl
  all_goals
    simp only [valid_iff, fo, decide_eq_true_eq, decide_eq_false_iff_not] at h3 ⊢
    generalize bt l 0 = b0 at *
    generalize bt l 1 = b1 at *
    generalize bt l 2 = b2 at *
    generalize bt l 3 = b3 at *
    generalize l.length = n at *
    (repeat' split at h2) <;> (repeat' split) <;> omega
theorem wid_off {l : List UInt8} (h : off2 (bt l 0) (bt l 1)) (hb : bt l 1 < 256) : wid l = 1 := by
  rw [wid_eq]
  simp only [valid_iff, fo, decide_eq_true_eq]
  unfold off2 at h
  generalize bt l 0 = b0 at *
  generalize bt l 1 = b1 at *
  generalize bt l 2 = b2 at *
  generalize bt l 3 = b3 at *
  generalize l.length = n at *
  (repeat' split) <;> omega
theorem wid_full {l : List UInt8} (h0 : asks (bt l 0) ≤ l.length) (h : ∀ i, 1 ≤ i → i < asks (bt l 0) → fo (bt l i) = true) (ho : ¬ off2 (bt l 0) (bt l 1)) (h256 : bt l 0 < 256) : wid l = asks (bt l 0) := by
  have g1 := h 1 (by omega)
  have g2 := h 2 (by omega)
  have g3 := h 3 (by omega)
  clear h
  rw [wid_eq]
  simp only [valid_iff, fo, decide_eq_true_eq] at g1 g2 g3 ⊢
  unfold off2 at ho
  unfold asks at *
  generalize bt l 0 = b0 at *
  generalize bt l 1 = b1 at *
  generalize bt l 2 = b2 at *
  generalize bt l 3 = b3 at *
  generalize l.length = n at *
  by_cases c2 : 194 ≤ b0 ∧ b0 ≤ 223
  · simp only [if_pos c2] at *
    (repeat' split) <;> omega
  by_cases c3 : 224 ≤ b0 ∧ b0 ≤ 239
  · simp only [if_neg c2, if_pos c3] at *
    (repeat' split) <;> omega
  by_cases c4 : 240 ≤ b0 ∧ b0 ≤ 244
  · simp only [if_neg c2, if_neg c3, if_pos c4] at *
    (repeat' split) <;> omega
  simp only [if_neg c2, if_neg c3, if_neg c4] at *
  (repeat' split) <;> omega
end Go.Proofs.Ythloacakomahaaa

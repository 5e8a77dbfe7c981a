/-
  The order of texts is that of digests.
-/
import Derived.Test.YtdbogfjkaebeoabDoorText
import Derived.Test.YtdbogfjkaebeoabDoorOrd
namespace Go.Proofs.YtdbogfjkaebeoabDoor
open Go.RowKit
set_option linter.unusedVariables false
set_option linter.unusedSimpArgs false

theorem hexd_lt (m n : Int) (hm : 0 ≤ m ∧ m < 16) (hn : 0 ≤ n ∧ n < 16) : hexd m < hexd n ↔ m < n := by
  unfold hexd
  split <;> split <;> omega
theorem hexs_ltB : ∀ a b : List Int, a.length = b.length → (∀ x ∈ a, 0 ≤ x ∧ x < 256) → (∀ x ∈ b, 0 ≤ x ∧ x < 256) → ltB (hexs a) (hexs b) = ltB a b
  | [], [], _, _, _ => rfl
  | x :: l, y :: m, hl, ha, hb => by
    have ih := hexs_ltB l m (by simpa using hl) (fun z hz => ha z (List.mem_cons_of_mem _ hz)) (fun z hz => hb z (List.mem_cons_of_mem _ hz))
    have hx := ha x (List.mem_cons_self ..)
    have hy := hb y (List.mem_cons_self ..)
    have p1 := hexd_lt (x / 16) (y / 16) (by omega) (by omega)
    have p2 := hexd_lt (y / 16) (x / 16) (by omega) (by omega)
    have p3 := hexd_lt (x % 16) (y % 16) (by omega) (by omega)
    have p4 := hexd_lt (y % 16) (x % 16) (by omega) (by omega)
    simp only [hexs, ltB, p1, p2, p3, p4, ih]
    by_cases c1 : x / 16 < y / 16
    · rw [if_pos c1, if_pos (by omega)]
    · rw [if_neg c1]
      by_cases c2 : y / 16 < x / 16
      · rw [if_pos c2, if_neg (by omega), if_pos (by omega)]
      · rw [if_neg c2]
        by_cases c3 : x % 16 < y % 16
        · rw [if_pos c3, if_pos (by omega)]
        · rw [if_neg c3]
          by_cases c4 : y % 16 < x % 16
          · rw [if_pos c4, if_neg (by omega), if_pos (by omega)]
          · rw [if_neg c4, if_neg (by omega), if_neg (by omega)]
theorem hexs_range : ∀ a : List Int, (∀ x ∈ a, 0 ≤ x ∧ x < 256) → ∀ x ∈ hexs a, 0 ≤ x ∧ x < 256
  | [], _, x, hx => by cases hx
  | c :: l, h, x, hx => by
    have hc := h c (List.mem_cons_self ..)
    simp only [hexs, List.mem_cons] at hx
    rcases hx with rfl | rfl | hx
    · unfold hexd; split <;> omega
    · unfold hexd; split <;> omega
    · exact hexs_range l (fun z hz => h z (List.mem_cons_of_mem _ hz)) x hx
theorem less_ltB : ∀ x y : List Int, (∀ z ∈ x, 0 ≤ z ∧ z < 256) → (∀ z ∈ y, 0 ≤ z ∧ z < 256) → Op.bytesLess (x.map fun n => UInt8.ofNat n.toNat) (y.map fun n => UInt8.ofNat n.toNat) = ltB x y
  | [], [], _, _ => rfl
  | [], _ :: _, _, _ => rfl
  | _ :: _, [], _, _ => rfl
  | a :: l, b :: m, ha, hb => by
    have ih := less_ltB l m (fun x hx => ha x (List.mem_cons_of_mem _ hx)) (fun x hx => hb x (List.mem_cons_of_mem _ hx))
    have h1 := toU8_lt (ha a (List.mem_cons_self ..)) (hb b (List.mem_cons_self ..))
    have h2 := toU8_lt (hb b (List.mem_cons_self ..)) (ha a (List.mem_cons_self ..))
    have e1 : (UInt8.ofNat a.toNat < UInt8.ofNat b.toNat) ↔ a < b := h1
    have e3 : UInt8.ofNat a.toNat = UInt8.ofNat b.toNat ↔ a = b := by
      constructor
      · intro e
        have n1 : ¬ a < b := fun h => by have := e1.2 h; rw [e] at this; exact absurd this (UInt8.lt_irrefl _)
        have n2 : ¬ b < a := fun h => by have := h2.2 h; rw [show a.toNat.toUInt8 = b.toNat.toUInt8 from e] at this; exact absurd this (UInt8.lt_irrefl _)
        omega
      · rintro rfl; rfl
    simp only [List.map_cons, Op.bytesLess, ltB, ih]
    by_cases c1 : a < b
    · simp [e1.2 c1, c1]
    · by_cases c2 : b < a
      · have : ¬ UInt8.ofNat a.toNat = UInt8.ofNat b.toNat := fun h => by have := e3.1 h; omega
        simp [c1, c2, this, fun h => c1 (e1.1 h)]
        exact UInt8.not_lt.1 (fun h => c1 (e1.1 h))
      · obtain rfl : a = b := by omega
        simp [UInt8.lt_irrefl]

theorem push_data (r : ByteArray) (b : UInt8) : (r.push b).data.toList = r.data.toList ++ [b] := by simp [ByteArray.push]
theorem fold_data (xs : List Int) : ∀ r : ByteArray, (xs.foldl (fun r n => r.push (UInt8.ofNat n.toNat)) r).data.toList = r.data.toList ++ xs.map fun n => UInt8.ofNat n.toNat := by
  induction xs with
  | nil => intro r; simp
  | cons x xs ih => intro r; rw [List.foldl_cons, ih, push_data]; simp
theorem strOf_list (xs : List Int) : (strOf xs).data.toList = xs.map fun n => UInt8.ofNat n.toNat := by
  unfold strOf
  rw [fold_data]
  rfl
theorem run_lss_text (w : World) (a b : List Int) (hl : a.length = b.length) (ha : ∀ x ∈ a, 0 ≤ x ∧ x < 256) (hb : ∀ x ∈ b, 0 ≤ x ∧ x < 256) :
    (binOp .lss 9 (.string (strOf (hexs a))) (.string (strOf (hexs b)))).run Tryd.prog w = .ok (.bool (ltB a b)) w := by
  rw [binOp_string_lss, Sem.run_pure, ByteArray.toList_eq, ByteArray.toList_eq, strOf_list, strOf_list, less_ltB _ _ (hexs_range a ha) (hexs_range b hb), hexs_ltB a b hl ha hb]
end Go.Proofs.YtdbogfjkaebeoabDoor

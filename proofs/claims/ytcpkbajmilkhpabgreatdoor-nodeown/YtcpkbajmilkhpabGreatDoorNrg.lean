/-
  To be above is to have the other one below.
-/
import Derived.Test.YtcpkbajmilkhpabGreatDoorNrf
namespace Go.Proofs.YtcpkbajmilkhpabGreatDoor
set_option linter.unusedVariables false

theorem str_list (xs : List Int) : (str xs).toList = xs.map fun n => UInt8.ofNat n.toNat := by
  rw [ByteArray.toList_eq]
  unfold str
  rw [fold_data]
  rfl

theorem above_less : ∀ (nm ah : List Int), (∀ x ∈ nm, 0 ≤ x ∧ x ≤ 255) → (∀ x ∈ ah, 0 ≤ x ∧ x ≤ 255) → aboveL nm ah = Op.bytesLess (ah.map fun n => UInt8.ofNat n.toNat) (nm.map fun n => UInt8.ofNat n.toNat)
  | [], [], _, _ => rfl
  | [], _ :: _, _, _ => rfl
  | _ :: _, [], _, _ => rfl
  | x :: xs, y :: ys, hx, hy => by
    have h1 := hx x (List.mem_cons_self ..)
    have h2 := hy y (List.mem_cons_self ..)
    have e1 : (UInt8.ofNat x.toNat).toNat = x.toNat := by rw [UInt8.toNat_ofNat']; omega
    have e2 : (UInt8.ofNat y.toNat).toNat = y.toNat := by rw [UInt8.toNat_ofNat']; omega
    have ih := above_less xs ys (fun z hz => hx z (List.mem_cons_of_mem _ hz)) (fun z hz => hy z (List.mem_cons_of_mem _ hz))
    rw [List.map_cons, List.map_cons]
    show (if y < x then true else if x < y then false else aboveL xs ys) = (decide (UInt8.ofNat y.toNat < UInt8.ofNat x.toNat) || (UInt8.ofNat y.toNat == UInt8.ofNat x.toNat && Op.bytesLess (ys.map fun n => UInt8.ofNat n.toNat) (xs.map fun n => UInt8.ofNat n.toNat)))
    rcases Int.lt_trichotomy x y with h | h | h
    · have d1 : ¬ UInt8.ofNat y.toNat < UInt8.ofNat x.toNat := by rw [UInt8.lt_iff_toNat_lt, e1, e2]; omega
      have d2 : (UInt8.ofNat y.toNat == UInt8.ofNat x.toNat) = false := by
        rw [beq_eq_false_iff_ne]
        intro e
        have := congrArg UInt8.toNat e
        rw [e1, e2] at this
        omega
      rw [if_neg (by omega), if_pos h, decide_eq_false d1, d2]
      rfl
    · subst h
      have d1 : ¬ UInt8.ofNat x.toNat < UInt8.ofNat x.toNat := by rw [UInt8.lt_iff_toNat_lt]; omega
      rw [if_neg (by omega), if_neg (by omega), decide_eq_false d1, ih, beq_self_eq_true, Bool.true_and, Bool.false_or]
    · have d1 : UInt8.ofNat y.toNat < UInt8.ofNat x.toNat := by rw [UInt8.lt_iff_toNat_lt, e1, e2]; omega
      rw [if_pos h, decide_eq_true d1]
      rfl

theorem above_lessB (nm ah : List Int) (hn : ∀ x ∈ nm, 0 ≤ x ∧ x ≤ 255) (ha : ∀ x ∈ ah, 0 ≤ x ∧ x ≤ 255) : aboveL nm ah = lessB ah nm := by
  unfold lessB
  rw [str_list, str_list]
  exact above_less nm ah hn ha
end Go.Proofs.YtcpkbajmilkhpabGreatDoor

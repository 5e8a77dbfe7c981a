/-
  What a name is: both IsNames by contract, over texts of numbers.
-/
import Derived.Test.YtcpkbajmilkhpabGreatDoorNmv
import Derived.Test.YtcpkbajmilkhpabGreatDoorNrn
namespace Go.Proofs.YtcpkbajmilkhpabGreatDoor
open Go.RowKit
set_option linter.unusedVariables false
set_option linter.unusedSimpArgs false
set_option maxRecDepth 100000

/-- A text's bytes. -/
def u8s (ys : List Int) : List UInt8 := ys.map fun n => UInt8.ofNat n.toNat
/-- What a name is. -/
def nameP (ys : List Int) : Bool := isName (u8s ys)

theorem str_u8s (ys : List Int) : str ys = ⟨(u8s ys).toArray⟩ := by
  have h := str_list ys
  rw [ByteArray.toList_eq] at h
  apply ByteArray.ext
  rw [u8s, ← h]

theorem nameC : NameC nameP := fun ys w hy => by
  rw [str_u8s]
  exact isname_full highRunes (u8s ys) w

theorem rname_long (s : ByteArray) (h2 : 64 < s.size) (w : World) :
    Calls Tryz.prog 59 #[.string s] w fun e w' => e = .returned (.bool (isName s.data.toList)) ∧ w' = w := by
  have h1 : ¬ s.size < 1 := by omega
  have HE : Hid (isName s.data.toList = false) := by
    unfold Hid
    rw [isName, show s.data.toList.length = s.size from by simp, decide_eq_false (by omega : ¬ s.size ≤ 64)]
    simp
  go_enter Tryz.func59, Tryz.ntmps59
  go_wp2
  go_ret
  exact ⟨by rw [HE.out]; rfl, rfl⟩

theorem nameRC : NameRC nameP := fun ys w hy => by
  rw [str_u8s]
  have h : Calls Tryz.prog 59 #[.string ⟨(u8s ys).toArray⟩] w fun e w' => e = .returned (.bool (isName (u8s ys))) ∧ w' = w := by
    by_cases h2 : 64 < (⟨(u8s ys).toArray⟩ : ByteArray).size
    · exact rname_long _ h2 w
    · exact rname_any _ (by omega) w
  refine h.mono ?_
  rintro e w' ⟨rfl, rfl⟩
  exact ⟨rfl, Kept.refl _ _⟩

theorem nameP_nil : nameP [] = false := rfl
theorem nameP_len (nm : List Int) (h : nameP nm = true) : nm.length ≤ 64 := by
  unfold nameP isName at h
  simp only [Bool.and_eq_true, decide_eq_true_eq] at h
  have := h.1.1.1.2
  simpa [u8s] using this
end Go.Proofs.YtcpkbajmilkhpabGreatDoor

/-
  path.IsName by contract: out of what strings.ContainsAny tells; at short texts of ASCII.
-/
import Derived.Test.YtmkfjdfpcjkmnaaRname
import Derived.Test.YtmkfjdfpcjkmnaaStrs
import Derived.Shelf.Strings.IndexAnyAll
namespace Go.Proofs
open Go.Shelf
shelf_lay Lays.n150 Nm 150 at Try as Try.lays150
end Go.Proofs
namespace Go.Proofs.Ytmkfjdfpcjkmnaa
open Go.RowKit
set_option linter.unusedVariables false
set_option linter.unusedSimpArgs false

set_option maxRecDepth 100000 in
set_option maxHeartbeats 1000000 in
theorem isname_by (x : List UInt8) (HC : x.length ≤ 64 → ∀ W, Calls Try.prog 81 #[.string ⟨x.toArray⟩, .string ⟨#[47, 0]⟩] W fun e W' => e = .returned (.bool (!(x.all okByte))) ∧ Kept (fun _ => False) W W') (w : World) :
    Calls Try.prog 65 #[.string ⟨x.toArray⟩] w fun e w' => e = .returned (.bool (isName x)) ∧ Kept (fun _ => False) w w' := by
  have HH := hid_of HC
  clear HC
  have hsz : (⟨x.toArray⟩ : ByteArray).size = x.length := rfl
  by_cases h1 : x = []
  · subst h1
    clear HH hsz
    go_enter Try.func65, Try.ntmps65
    go_wp2
    go_ret
    exact ⟨rfl, Kept.refl _ _⟩
  have e1 : x.isEmpty = false := by
    cases x with
    | nil => exact absurd rfl h1
    | cons a b => rfl
  have e0 : 1 ≤ x.length := by
    cases x with
    | nil => exact absurd rfl h1
    | cons a b => simp
  clear h1
  by_cases h2 : 64 < x.length
  · have HE : Hid (isName x = false) := by
      show _ = _
      rw [isName, decide_eq_false (by omega : ¬ x.length ≤ 64)]
      simp
    clear HH
    go_enter Try.func65, Try.ntmps65
    go_wp2
    go_ret
    exact ⟨by rw [HE.out]; rfl, Kept.refl _ _⟩
  by_cases h3 : x = [46]
  · subst h3
    clear HH hsz
    go_enter Try.func65, Try.ntmps65
    go_wp2
    go_ret
    exact ⟨rfl, Kept.refl _ _⟩
  by_cases h4 : x = [46, 46]
  · subst h4
    clear HH hsz
    go_enter Try.func65, Try.ntmps65
    go_wp2
    go_ret
    exact ⟨rfl, Kept.refl _ _⟩
  have HE : Hid (isName x = x.all okByte) := by
    show _ = _
    rw [isName, decide_eq_true e0, decide_eq_true (by omega : x.length ≤ 64)]
    simp [h3, h4]
  have e2 : (x == [46]) = false := by simpa using h3
  have e3 : (x == [46, 46]) = false := by simpa using h4
  have h5 : x.length ≤ 64 := by omega
  have HK := hid_of (HH.out h5)
  clear HH
  generalize x.all okByte = ok at *
  go_enter Try.func65, Try.ntmps65
  go_wp2_with fail
  refine (HK.out _).mono ?_
  rintro e w1 ⟨rfl, hk⟩
  have HW := hid_of hk
  clear hk HK
  go_wp2
  go_ret
  refine ⟨?_, HW.out⟩
  rw [HE.out]
  cases ok <;> rfl

theorem any_ok : ∀ x : List UInt8, Lib.containsAny x [47, 0] = !(x.all okByte)
  | [] => rfl
  | b :: l => by
    have ih := any_ok l
    rw [Lib.containsAny] at ih ⊢
    rw [Lib.indexAny, List.all_cons]
    have h0 := Lib.indexAny_ge [47, 0] l
    by_cases hb : [47, 0].contains b = true
    · have : okByte b = false := by
        simp only [List.contains_cons, List.contains_nil, Bool.or_false, Bool.or_eq_true, beq_iff_eq] at hb
        rcases hb with rfl | rfl <;> rfl
      rw [if_pos hb, this]
      simp
    · have : okByte b = true := by
        simp only [List.contains_cons, List.contains_nil, Bool.or_false, Bool.or_eq_true, beq_iff_eq, not_or] at hb
        simp [okByte, hb.1, hb.2]
      rw [if_neg hb, this, Bool.true_and, ← ih]
      split
      · rename_i h
        rw [beq_iff_eq] at h
        rw [h]
      · rename_i h
        have h' : Lib.indexAny l [47, 0] ≠ -1 := by simpa using h
        rw [decide_eq_decide]
        omega

/-- Short texts of ASCII. -/
def Asc (x : List UInt8) : Prop := x.length ≤ 8 ∧ ∀ b ∈ x, b.toNat < 128

theorem isname_asc (x : List UInt8) (hx : Asc x) (w : World) :
    Calls Try.prog 65 #[.string ⟨x.toArray⟩] w fun e w' => e = .returned (.bool (isName x)) ∧ Kept (fun _ => False) w w' :=
  isname_by x (fun _ W => (Any.strings_ContainsAny_laid Try.lays150 (by kernel_rfl) ⟨x.toArray⟩ ⟨#[47, 0]⟩ W (show x.length < 4294967281 by have := hx.1; omega) (by decide)
    (fun j b h => hx.2 b (List.mem_of_getElem? (by simpa using h)))
    (fun j b h => by
      have : b ∈ [47, 0] := List.mem_of_getElem? (by simpa using h)
      simp at this
      rcases this with rfl | rfl <;> decide)).mono (fun e w' h => ⟨by rw [h.1, ← any_ok], kept_below h.2⟩)) w
end Go.Proofs.Ytmkfjdfpcjkmnaa

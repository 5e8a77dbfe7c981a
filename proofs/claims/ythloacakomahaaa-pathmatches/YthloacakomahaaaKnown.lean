/-
  The statements' 'known' by contract.
-/
import Derived.Test.YthloacakomahaaaMatch
import Derived.Test.YthloacakomahaaaName
namespace Go.Proofs.Ythloacakomahaaa
open Go.RowKit
set_option linter.unusedVariables false
set_option linter.unusedSimpArgs false

/-- Two bytes of ASCII at most. -/
def Sm (x : List UInt8) : Prop := x.length ≤ 2 ∧ ∀ b ∈ x, b.toNat < 128

theorem contains_short (x : List UInt8) (hx : x.length ≤ 2) (hn : x ≠ [42, 42]) : Lib.contains x [42, 42] = false := by
  match x, hx, hn with
  | [], _, _ => rfl
  | [a], _, _ => simp [Lib.contains, Lib.index, List.isPrefixOf]
  | [a, b], _, hn =>
    have h : ([42, 42] : List UInt8).isPrefixOf [a, b] = false := by
      rw [Bool.eq_false_iff]
      intro h
      simp [List.isPrefixOf] at h
      exact hn (by rw [← h.1, ← h.2])
    simp [Lib.contains, Lib.index, h]
  | _ :: _ :: _ :: _, hx, _ => simp at hx

set_option maxRecDepth 100000 in
set_option maxHeartbeats 1000000 in
theorem index2 (x : List UInt8) (hx : x.length ≤ 2) (hn : x ≠ [42, 42]) (w : World) :
    Calls Try.prog 71 #[.string ⟨x.toArray⟩, .string ⟨#[42, 42]⟩] w fun e w' => e = .returned (.int .i64 (-1)) ∧ w' = w := by
  have e1 : ([42, 42] == x) = false := by simpa using fun h => hn h.symm
  have e2 : (x == [42, 42]) = false := by simpa using hn
  have hsz : (⟨x.toArray⟩ : ByteArray).size = x.length := rfl
  have hd : decide ((x.length : Int) ≤ 2) = true := decide_eq_true (by omega)
  go_enter Try.func71, Try.ntmps71
  go_wp2
  go_ret
  exact ⟨rfl, rfl⟩

set_option maxRecDepth 100000 in
set_option maxHeartbeats 1000000 in
theorem contains2 (x : List UInt8) (hx : x.length ≤ 2) (hn : x ≠ [42, 42]) (w : World) :
    Calls Try.prog 39 #[.string ⟨x.toArray⟩, .string ⟨#[42, 42]⟩] w fun e w' => e = .returned (.bool (Lib.contains x [42, 42])) ∧ Kept (fun _ => False) w w' := by
  rw [contains_short x hx hn]
  have HI := hid_of (index2 x hx hn)
  have HJ : Hid (∀ w, Calls Try.prog 57 #[.string ⟨x.toArray⟩, .string ⟨#[42, 42]⟩] w fun e w' => e = .returned (.int .i64 (-1)) ∧ w' = w) := fun w => by
    go_enter Try.func57, Try.ntmps57
    go_wp2_with fail
    refine (HI.out _).mono ?_
    rintro e w1 ⟨rfl, rfl⟩
    go_wp2
    go_ret
    exact ⟨rfl, rfl⟩
  go_enter Try.func39, Try.ntmps39
  go_wp2_with fail
  refine (HJ.out _).mono ?_
  rintro e w1 ⟨rfl, rfl⟩
  go_wp2
  go_ret
  exact ⟨rfl, Kept.refl _ _⟩

theorem sm_all (l : List UInt8) (h : (partsOf l).all (fun x => decide (x.length ≤ 2) && x.all (fun b => decide (b.toNat < 128))) = true) : ∀ x ∈ partsOf l, Sm x := by
  intro x hx
  have := List.all_eq_true.1 h x hx
  simp only [Bool.and_eq_true, decide_eq_true_eq, List.all_eq_true] at this
  exact this
theorem name_sm (x : List UInt8) (h : Sm x) (w : World) : Calls Try.prog 12 #[.string ⟨x.toArray⟩] w fun e w' => e = .returned (.bool (isName x)) ∧ Kept (fun _ => False) w w' :=
  isname_asc x ⟨by have := h.1; omega, h.2⟩ w

set_option maxRecDepth 100000 in
set_option maxHeartbeats 1000000 in
theorem known_any (w : World) : Calls Try.prog 9 #[] w fun e w' => e = .returned (.bool true) ∧ Kept (fun _ => False) w w' := by
  have H1 : Hid (∀ w, Calls Try.prog 10 #[.string ⟨#[97, 47, 46, 47, 98, 47, 46, 46, 47, 99, 47, 47]⟩] w fun e w' => e = .returned (.tuple #[.string ⟨#[97, 47, 99]⟩, .int .i64 0]) ∧ Kept (fun _ => False) w w') := fun w => by
    have h := clean_any name_sm ⟨#[97, 47, 46, 47, 98, 47, 46, 46, 47, 99, 47, 47]⟩ (sm_all _ (by decide +kernel)) w
    have e : cleanOf (⟨#[97, 47, 46, 47, 98, 47, 46, 46, 47, 99, 47, 47]⟩ : ByteArray).data.toList = ([97, 47, 99], 0) := by decide +kernel
    rw [e] at h
    exact h
  have H2 : Hid (∀ w, Calls Try.prog 10 #[.string ⟨#[97, 47, 46, 46, 47, 46, 46]⟩] w fun e w' => e = .returned (.tuple #[.string ⟨#[]⟩, .int .i64 32]) ∧ Kept (fun _ => False) w w') := fun w => by
    have h := clean_any name_sm ⟨#[97, 47, 46, 46, 47, 46, 46]⟩ (sm_all _ (by decide +kernel)) w
    have e : cleanOf (⟨#[97, 47, 46, 46, 47, 46, 46]⟩ : ByteArray).data.toList = ([], 32) := by decide +kernel
    rw [e] at h
    exact h
  have H3 : Hid (∀ w, Calls Try.prog 28 #[.string ⟨#[97, 47, 42, 42, 47, 99]⟩, .string ⟨#[97, 47, 98, 47, 98, 47, 99]⟩] w fun e w' => e = .returned (.tuple #[.bool true, .int .i64 0]) ∧ Kept (fun _ => False) w w') := fun w => by
    have h := match_any (P := Sm) w (fun x hx hn W _ => contains2 x hx.1 hn W) name_sm ⟨#[97, 47, 42, 42, 47, 99]⟩ ⟨#[97, 47, 98, 47, 98, 47, 99]⟩ (sm_all _ (by decide +kernel)) (sm_all _ (by decide +kernel))
    have e : matchOf (⟨#[97, 47, 42, 42, 47, 99]⟩ : ByteArray).data.toList (⟨#[97, 47, 98, 47, 98, 47, 99]⟩ : ByteArray).data.toList = (true, 0) := by decide +kernel
    rw [e] at h
    exact h
  have H4 : Hid (∀ w, Calls Try.prog 24 #[.string ⟨#[97, 47, 98]⟩, .string ⟨#[97, 45]⟩] w fun e w' => e = .returned (.bool true) ∧ ∃ q, w' = w.drewN q) := fun w => less_any ⟨#[97, 47, 98]⟩ ⟨#[97, 45]⟩ (by decide) (by decide) w
  have H5 : Hid (∀ w, Calls Try.prog 23 #[.string ⟨#[97, 47, 98]⟩] w fun e w' => e = .returned (.int .i64 2) ∧ w' = w) := fun w => depth_any ⟨#[97, 47, 98]⟩ (by decide) w
  go_enter Try.func9, Try.ntmps9
  go_wp2_with fail
  refine (H1.out _).mono ?_
  rintro e w1 ⟨rfl, hk⟩
  have K1 := hid_of hk
  clear hk H1
  go_wp2_with fail
  refine (H2.out _).mono ?_
  rintro e w2 ⟨rfl, hk⟩
  have K2 := hid_of (K1.out.trans hk)
  clear hk H2
  go_wp2_with fail
  refine (H3.out _).mono ?_
  rintro e w3 ⟨rfl, hk⟩
  have K3 := hid_of (K2.out.trans hk)
  clear hk H3
  go_wp2_with fail
  refine (H4.out _).mono ?_
  rintro e w4 ⟨rfl, q, rfl⟩
  clear H4
  go_wp2_with fail
  refine (H5.out _).mono ?_
  rintro e w5 ⟨rfl, rfl⟩
  clear H5
  go_wp2
  go_ret
  exact ⟨rfl, kept_drewN K3.out _⟩
end Go.Proofs.Ythloacakomahaaa

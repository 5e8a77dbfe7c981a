/-
  The reference's name.
-/
import Derived.Test.YtcpkbajmilkhpabGreatDoorNrg
namespace Go.Proofs.YtcpkbajmilkhpabGreatDoor
open Go.RowKit Go.Deep
set_option linter.unusedVariables false
set_option linter.unusedSimpArgs false

/-- What the reference's IsName answers, by contract. -/
def NameRC (P : List Int → Bool) : Prop :=
  ∀ (ys : List Int) (w : World), (∀ y ∈ ys, 0 ≤ y ∧ y ≤ 255) → Calls Tryz.prog 59 #[.string (str ys)] w fun e w' => e = .returned (.bool (P ys)) ∧ Kept (fun _ => False) w w'

set_option maxRecDepth 100000 in
theorem name_none (P : List Int → Bool) (HR : NameRC P) (s : List Int) (ao : Option Addr) (cp : Nat) (w : World) (hs : ∀ x ∈ s, 0 ≤ x ∧ x ≤ 255) :
    Calls Tryz.prog 37 #[.slice ao 0 cp, .string (str s)] w fun e w' => e = .returned (.bool (P s)) ∧ Kept (fun _ => False) w w' := by
  have HN := hid_of (HR s w hs)
  obtain ⟨b, hb⟩ : ∃ b, b = P s := ⟨_, rfl⟩
  have HBB := hid_of hb
  rw [← hb] at HN ⊢
  clear hb
  cases b
  · go_enter Tryz.func37, Tryz.ntmps37
    go_wp2_with fail
    refine HN.out.mono ?_
    rintro e w2 ⟨rfl, hk⟩
    have HK := hid_of hk
    clear hk HN
    go_wp2
    go_ret
    exact ⟨rfl, HK.out⟩
  · go_enter Tryz.func37, Tryz.ntmps37
    go_wp2_with fail
    refine HN.out.mono ?_
    rintro e w2 ⟨rfl, hk⟩
    have HK := hid_of hk
    clear hk HN
    go_wp2
    go_ret
    exact ⟨rfl, HK.out⟩

set_option maxRecDepth 100000 in
set_option maxHeartbeats 1000000 in
theorem name_some (P : List Int → Bool) (HR : NameRC P) (s ah : List Int) (b o m cp : Nat) (w : World) (hs : ∀ x ∈ s, 0 ≤ x ∧ x ≤ 255) (ha : ∀ x ∈ ah, 0 ≤ x ∧ x ≤ 255) (hsl : s.length ≤ 140737488351232) (hal : ah.length ≤ 140737488351232) (hm : m ≤ 1024)
    (hc : w.cell? ⟨b, o + m * 34, none⟩ = some (.string (str ah))) :
    Calls Tryz.prog 37 #[.slice (some ⟨b, o, none⟩) (m + 1) cp, .string (str s)] w fun e w' => e = .returned (.bool (P s && aboveL s ah)) ∧ Kept (fun _ => False) w w' := by
  have HN := hid_of (HR s w hs)
  have HA := hid_of (fun w' => above_ref s ah w' hs ha hsl hal)
  obtain ⟨q, hb⟩ : ∃ q, q = P s := ⟨_, rfl⟩
  rw [← hb] at HN ⊢
  have hw1 : IntKind.i64.wrap (m : Int) = (m : Int) := by simp [IntKind.wrap, IntKind.bits, IntKind.signed]; omega
  have hne : (((m : Int) + 1) == 0) = false := by simp; omega
  have hlt : (m : Int) < (m : Int) + 1 := by omega
  have hbl : b < w.heap.size := World.block_lt_of_cell? _ _ hc
  clear hb
  cases q
  · go_enter Tryz.func37, Tryz.ntmps37
    go_wp2_with fail
    refine HN.out.mono ?_
    rintro e w2 ⟨rfl, hk⟩
    have HK := hid_of hk
    clear hk HN
    go_wp2
    go_ret
    exact ⟨rfl, HK.out⟩
  · go_enter Tryz.func37, Tryz.ntmps37
    go_wp2_with fail
    refine HN.out.mono ?_
    rintro e w2 ⟨rfl, hk⟩
    have hc2 := hk.cell hc (fun f => f)
    have hbl2 : b < w2.heap.size := Nat.lt_of_lt_of_le hbl hk.size
    have HK := hid_of hk
    clear hk HN hc
    go_wp2_with fail
    refine (HA.out w2).mono ?_
    rintro e w3 ⟨rfl, n, rfl⟩
    have HK3 := hid_of (kept_drewN HK.out n)
    clear HA HK
    go_wp2
    go_ret
    exact ⟨rfl, HK3.out⟩
end Go.Proofs.YtcpkbajmilkhpabGreatDoor

/-
  The reference's kind.
-/
import Derived.Test.YtcpkbajmilkhpabGreatDoorNsp
import Derived.Deep.QuietTactic
import Derived.BigQuiet
namespace Go.Proofs.YtcpkbajmilkhpabGreatDoor
open Go.RowKit Go.Deep
set_option linter.unusedVariables false
set_option linter.unusedSimpArgs false

set_option maxRecDepth 100000 in
theorem kind_ref (k : Int) (w : World) : Calls Tryz.prog 36 #[.int .i64 k] w fun e w' => e = .returned (.bool (decide (k = 1 ∨ k = 2))) ∧ w' = w := by
  by_cases h1 : k = 1
  · subst h1
    go_enter Tryz.func36, Tryz.ntmps36
    go_wp2
    go_ret
    exact ⟨rfl, rfl⟩
  · have b1 : (k == 1) = false := by simpa using h1
    by_cases h2 : k = 2
    · subst h2
      go_enter Tryz.func36, Tryz.ntmps36
      go_wp2
      go_ret
      exact ⟨rfl, rfl⟩
    · have b2 : (k == 2) = false := by simpa using h2
      have HD : Hid (decide (k = 1 ∨ k = 2) = false) := decide_eq_false (by omega)
      rw [HD.out]
      clear h1 h2
      go_enter Tryz.func36, Tryz.ntmps36
      go_wp2
      go_ret
      exact ⟨rfl, rfl⟩

theorem str_get (xs : List Int) (i : Nat) (hx : ∀ x ∈ xs, 0 ≤ x ∧ x ≤ 255) (hi : i < xs.length) (s : ByteArray) (hs : s = str xs) (h : i < s.size) : ((s[i]'h).toNat : Int) = xs.getD i 0 := by
  subst hs
  have e := str_nums xs hx
  have e2 := congrArg (fun l => l.getD i 0) e
  rw [← e2]
  show _ = (nums (str xs)).getD i 0
  unfold nums
  have hi2 : i < (str xs).data.toList.length := by have := h; simpa using this
  rw [List.getD, List.getElem?_map, List.getElem?_eq_getElem hi2]
  rfl

/-- Is a name above the one ahead? -/
def aboveL : List Int → List Int → Bool
  | [], _ => false
  | _ :: _, [] => true
  | x :: xs, y :: ys => if y < x then true else if x < y then false else aboveL xs ys

set_option maxRecDepth 100000 in
theorem above_ref (nm ah : List Int) (w : World) (hn : ∀ x ∈ nm, 0 ≤ x ∧ x ≤ 255) (ha : ∀ x ∈ ah, 0 ≤ x ∧ x ≤ 255) (hln : nm.length ≤ 140737488351232) (hla : ah.length ≤ 140737488351232) :
    Calls Tryz.prog 34 #[.string (str nm), .string (str ah)] w fun e w' => e = .returned (.bool (aboveL nm ah)) ∧ ∃ n, w' = w.drewN n := by
  obtain ⟨s, hs⟩ : ∃ s, s = str nm := ⟨_, rfl⟩
  obtain ⟨t, ht⟩ : ∃ t, t = str ah := ⟨_, rfl⟩
  have hss : s.size = nm.length := by rw [hs, str_size]
  have hts : t.size = ah.length := by rw [ht, str_size]
  rw [← hs, ← ht]
  have HS := hid_of hs
  have HT := hid_of ht
  clear hs ht
  go_enter Tryz.func34, Tryz.ntmps34
  go_wp2
  go_loopw [5] (fun iv wr => ∃ i n : Nat, i ≤ nm.length ∧ iv = .int .i64 i ∧ wr = w.drewN n ∧ i ≤ ah.length ∧ aboveL nm ah = aboveL (nm.drop i) (ah.drop i)) (fun iv _ => nm.length - (intOf iv).toNat)
  case atStart => exact ⟨0, 0, Nat.zero_le _, rfl, rfl, Nat.zero_le _, rfl⟩
  case round =>
    obtain ⟨i, n, hi, rfl, rfl, hia, hab⟩ := hrel
    have HAB := hid_of hab
    clear hab
    by_cases hlt : i < nm.length
    · have hltI : (i : Int) < (nm.length : Int) := by omega
      by_cases hla2 : i < ah.length
      · have hgI : ¬ ((ah.length : Int) ≤ (i : Int)) := by omega
        have hgd : decide (ah.length ≤ i) = false := by simp; omega
        have hiS : i < s.size := by omega
        have hiT : i < t.size := by omega
        have eS := str_get nm i hn hlt s HS.out hiS
        have eT := str_get ah i ha hla2 t HT.out hiT
        have hdn : nm.drop i = nm.getD i 0 :: nm.drop (i + 1) := by rw [List.drop_eq_getElem_cons hlt, List.getD, List.getElem?_eq_getElem hlt]; rfl
        have hda : ah.drop i = ah.getD i 0 :: ah.drop (i + 1) := by rw [List.drop_eq_getElem_cons hla2, List.getD, List.getElem?_eq_getElem hla2]; rfl
        have HL : Hid (aboveL nm ah = if ah.getD i 0 < nm.getD i 0 then true else if nm.getD i 0 < ah.getD i 0 then false else aboveL (nm.drop (i + 1)) (ah.drop (i + 1))) := by unfold Hid; rw [HAB.out, hdn, hda]; rfl
        have HES := hid_of eS
        have HET := hid_of eT
        clear hdn hda eS eT HAB
        rcases Nat.lt_trichotomy (s[i].toNat) (t[i].toNat) with hc | hc | hc
        · have h1 : decide (t[i].toNat < s[i].toNat) = false := by simp; omega
          have HR : Hid (aboveL nm ah = false) := by unfold Hid; rw [HL.out, if_neg (by have h1 := HES.out; have h2 := HET.out; omega), if_pos (by have h1 := HES.out; have h2 := HET.out; omega)]
          go_wp2_with fail
          go_quiet (fail)
          go_wp2_with fail
          go_quiet (fail)
          go_wp2
          go_ret
          exact ⟨by rw [HR.out]; rfl, _, by first | rfl | (rw [drew2, drew2]) | (rw [drew2])⟩
        · have h1 : decide (t[i].toNat < s[i].toNat) = false := by simp; omega
          have h2 : decide (s[i].toNat < t[i].toNat) = false := by simp; omega
          have HR : Hid (aboveL nm ah = aboveL (nm.drop (i + 1)) (ah.drop (i + 1))) := by unfold Hid; rw [HL.out, if_neg (by have h1 := HES.out; have h2 := HET.out; omega), if_neg (by have h1 := HES.out; have h2 := HET.out; omega)]
          have hle1 : ¬ (t[i].toNat < s[i].toNat) := by omega
          have hle2 : ¬ (s[i].toNat < t[i].toNat) := by omega
          clear hc
          go_wp2_with fail
          go_quiet (fail)
          go_wp2_with fail
          go_quiet (fail)
          go_wp2
          go_roundw
          case rel => exact ⟨i + 1, _, by omega, by go_num, by first | rfl | (rw [drew2, drew2]) | (rw [drew2]), by omega, HR.out⟩
          case measure => simp [intOf]; omega
        · have h1 : decide (t[i].toNat < s[i].toNat) = true := by simp; omega
          have HR : Hid (aboveL nm ah = true) := by unfold Hid; rw [HL.out, if_pos (by have h1 := HES.out; have h2 := HET.out; omega)]
          go_wp2_with fail
          go_quiet (fail)
          go_wp2
          go_ret
          exact ⟨by rw [HR.out]; rfl, _, by first | rfl | (rw [drew2, drew2]) | (rw [drew2])⟩
      · have hgI : (ah.length : Int) ≤ (i : Int) := by omega
        have hgd : decide (ah.length ≤ i) = true := by simp; omega
        have HR : Hid (aboveL nm ah = true) := by
          unfold Hid
          rw [HAB.out, List.drop_eq_getElem_cons hlt, List.drop_eq_nil_of_le (show ah.length ≤ i by omega)]
          rfl
        go_wp2_with fail
        go_quiet (fail)
        go_wp2
        go_ret
        exact ⟨by rw [HR.out]; rfl, _, by first | rfl | (rw [drew2, drew2]) | (rw [drew2])⟩
    · have hnl : ¬ ((i : Int) < (nm.length : Int)) := by omega
      have HR : Hid (aboveL nm ah = false) := by
        unfold Hid
        rw [HAB.out, List.drop_eq_nil_of_le (show nm.length ≤ i by omega)]
        rfl
      go_wp2
      go_ret
      exact ⟨by rw [HR.out]; rfl, _, rfl⟩
end Go.Proofs.YtcpkbajmilkhpabGreatDoor

/-
  Text and Parse undo each other.
-/
import Derived.Test.YtdbogfjkaebeoabDoorParseA
import Derived.Test.YtdbogfjkaebeoabDoorHexo
namespace Go.Proofs.YtdbogfjkaebeoabDoor
open Go.RowKit
set_option linter.unusedVariables false
set_option linter.unusedSimpArgs false

theorem half_hexd_nat : ∀ n : Nat, n < 16 → half (hexd n) = n := by decide
theorem half_hexd (n : Int) (h0 : 0 ≤ n) (h1 : n < 16) : half (hexd n) = n := by
  obtain ⟨k, rfl⟩ := Int.eq_ofNat_of_zero_le h0
  exact half_hexd_nat k (by omega)
theorem hexd_half_nat : ∀ c : Nat, c < 256 → 0 ≤ half c → hexd (half c) = c := by decide +kernel
theorem letter_range (s : ByteArray) (k : Nat) : 0 ≤ letter s k ∧ letter s k < 256 := by
  unfold letter
  have := (s[k]!).toNat_lt
  omega
theorem hexd_hv (s : ByteArray) (k : Nat) (h : 0 ≤ hv s k) : hexd (hv s k) = letter s k := by
  have hr := letter_range s k
  unfold hv at h ⊢
  obtain ⟨c, hc⟩ := Int.eq_ofNat_of_zero_le hr.1
  rw [hc] at h ⊢
  exact hexd_half_nat c (by omega) h
theorem hexs_at : ∀ (d : List Int) (j : Nat), j < d.length → (hexs d).getD (2 * j) 0 = hexd (d.getD j 0 / 16) ∧ (hexs d).getD (2 * j + 1) 0 = hexd (d.getD j 0 % 16)
  | [], j, h => absurd h (by simp)
  | c :: l, 0, h => ⟨rfl, rfl⟩
  | c :: l, j + 1, h => by
    have := hexs_at l j (by simpa using h)
    simpa [hexs, Nat.mul_add] using this
theorem strOf_size (l : List Int) : (strOf l).size = l.length := by
  have := congrArg List.length (strOf_list l)
  rw [List.length_map, Array.length_toList] at this
  exact this
theorem letter_strOf (l : List Int) (k : Nat) (hk : k < l.length) (hr : ∀ x ∈ l, 0 ≤ x ∧ x < 256) : letter (strOf l) k = l.getD k 0 := by
  have hs : k < (strOf l).size := by rw [strOf_size]; exact hk
  have e : (strOf l)[k]! = (strOf l)[k]'hs := getElem!_pos (strOf l) k hs
  have e2 : (strOf l)[k]'hs = (strOf l).data.toList[k]'(by rw [Array.length_toList]; exact hs) := rfl
  have hx := hr (l[k]) (List.getElem_mem hk)
  unfold letter
  rw [e, e2]
  simp only [strOf_list, List.getElem_map, List.getD, List.getElem?_eq_getElem hk, Option.getD_some]
  rw [UInt8.toNat_ofNat']
  omega
theorem text_hv (d : List Int) (hl : d.length = 32) (hr : ∀ x ∈ d, 0 ≤ x ∧ x < 256) (j : Nat) (hj : j < 32) : hv (strOf (hexs d)) (2 * j) = d.getD j 0 / 16 ∧ hv (strOf (hexs d)) (2 * j + 1) = d.getD j 0 % 16 := by
  have hh : (hexs d).length = 64 := by rw [hexs_length, hl]
  have hc : 0 ≤ d.getD j 0 ∧ d.getD j 0 < 256 := hr _ (by rw [List.getD, List.getElem?_eq_getElem (by omega)]; simp)
  have ha := hexs_at d j (by omega)
  unfold hv
  rw [letter_strOf _ _ (by omega) (hexs_range d hr), letter_strOf _ _ (by omega) (hexs_range d hr), ha.1, ha.2, half_hexd _ (by omega) (by omega), half_hexd _ (by omega) (by omega)]
  exact ⟨rfl, rfl⟩
theorem text_good (d : List Int) (hl : d.length = 32) (hr : ∀ x ∈ d, 0 ≤ x ∧ x < 256) (k : Nat) (hk : k < 64) : 0 ≤ hv (strOf (hexs d)) k := by
  have hc : 0 ≤ d.getD (k / 2) 0 ∧ d.getD (k / 2) 0 < 256 := hr _ (by rw [List.getD, List.getElem?_eq_getElem (by omega)]; simp)
  have := text_hv d hl hr (k / 2) (by omega)
  rcases Nat.mod_two_eq_zero_or_one k with h | h
  · rw [show 2 * (k / 2) = k by omega] at this
    rw [this.1]
    omega
  · rw [show 2 * (k / 2) + 1 = k by omega] at this
    rw [this.2]
    omega
theorem parsed_text (d : List Int) (hl : d.length = 32) (hr : ∀ x ∈ d, 0 ≤ x ∧ x < 256) : parsed (strOf (hexs d)) = d := by
  apply List.ext_getElem
  · rw [parsed_length, hl]
  · intro j h1 h2
    have hj : j < 32 := by omega
    have e := parsed_at (strOf (hexs d)) j hj
    rw [List.getD, List.getElem?_eq_getElem h1, Option.getD_some] at e
    have := text_hv d hl hr j hj
    rw [e, dAt, if_pos (by omega), this.1, this.2, List.getD, List.getElem?_eq_getElem h2, Option.getD_some]
    omega
theorem parsed_range (s : ByteArray) (hg : ∀ j, j < 64 → 0 ≤ hv s j) : ∀ x ∈ parsed s, 0 ≤ x ∧ x < 256 := by
  intro x hx
  obtain ⟨j, hj, rfl⟩ := List.mem_map.1 hx
  have hj' : j < 32 := List.mem_range.1 hj
  have a := hg (2 * j) (by omega)
  have b := hg (2 * j + 1) (by omega)
  have a1 : hv s (2 * j) < 16 := half_lt _
  have b1 : hv s (2 * j + 1) < 16 := half_lt _
  rw [dAt, if_pos (by omega)]
  omega
theorem text_parsed (s : ByteArray) (hs : s.size = 64) (hg : ∀ j, j < 64 → 0 ≤ hv s j) : strOf (hexs (parsed s)) = s := by
  have hh : (hexs (parsed s)).length = 64 := by rw [hexs_length, parsed_length]
  have key : ∀ k, k < 64 → (hexs (parsed s)).getD k 0 = letter s k := by
    intro k hk
    have a := hexs_at (parsed s) (k / 2) (by rw [parsed_length]; omega)
    have b := parsed_at s (k / 2) (by omega)
    have g0 := hg (2 * (k / 2)) (by omega)
    have g1 := hg (2 * (k / 2) + 1) (by omega)
    have l0 : hv s (2 * (k / 2)) < 16 := half_lt _
    have l1 : hv s (2 * (k / 2) + 1) < 16 := half_lt _
    rw [b, dAt, if_pos (by omega)] at a
    rw [show (16 * hv s (2 * (k / 2)) + hv s (2 * (k / 2) + 1)) / 16 = hv s (2 * (k / 2)) by omega, show (16 * hv s (2 * (k / 2)) + hv s (2 * (k / 2) + 1)) % 16 = hv s (2 * (k / 2) + 1) by omega, hexd_hv s _ g0, hexd_hv s _ g1] at a
    rcases Nat.mod_two_eq_zero_or_one k with h | h
    · rw [show 2 * (k / 2) = k by omega] at a
      exact a.1
    · rw [show 2 * (k / 2) + 1 = k by omega] at a
      exact a.2
  have e : (strOf (hexs (parsed s))).data.toList = s.data.toList := by
    rw [strOf_list]
    apply List.ext_getElem
    · rw [List.length_map, hh]
      exact hs.symm
    · intro k h1 h2
      have hk : k < 64 := by rw [List.length_map] at h1; omega
      have hk' : k < s.size := by omega
      have e3 : s[k]! = s[k]'hk' := getElem!_pos s k hk'
      have e4 : s.data.toList[k]'h2 = s[k]'hk' := rfl
      have := key k hk
      rw [List.getD, List.getElem?_eq_getElem (by omega), Option.getD_some] at this
      rw [List.getElem_map, this, letter, Int.toNat_natCast, e4, e3]
      simp
  have e' : (strOf (hexs (parsed s))).data = s.data := Array.toList_inj.1 e
  cases hq : strOf (hexs (parsed s)) with
  | mk q => cases s with
    | mk t => rw [hq] at e'; exact congrArg _ e'

theorem parse_text (d : List Int) (hl : d.length = 32) (hr : ∀ x ∈ d, 0 ≤ x ∧ x < 256) (w : World) :
    Calls Tryd.prog 12 #[.string (strOf (hexs d))] w fun e w' => e = .returned (.tuple #[.agg (d.map (Value.int .u8)).toArray, .int .i64 0]) ∧ Kept (fun _ => False) w w' := by
  refine (parse_let (strOf (hexs d)) (by rw [strOf_size, hexs_length, hl]) w).mono ?_
  rintro e w' ⟨hk, ⟨_, rfl⟩ | ⟨⟨j, hj, hb⟩, _⟩⟩
  · rw [parsed_text d hl hr]
    exact ⟨rfl, hk⟩
  · have := text_good d hl hr j hj
    omega
/-- What Parse tells of any text. -/
theorem parse_any (s : ByteArray) (w : World) :
    Calls Tryd.prog 12 #[.string s] w fun e w' => Kept (fun _ => False) w w' ∧ ((∃ b : List Int, b.length = 32 ∧ (∀ x ∈ b, 0 ≤ x ∧ x < 256) ∧ strOf (hexs b) = s ∧ e = .returned (.tuple #[.agg (b.map (Value.int .u8)).toArray, .int .i64 0])) ∨ e = .returned (.tuple #[.agg (zeros32.map (Value.int .u8)).toArray, .int .i64 21])) := by
  by_cases hs : s.size = 64
  · refine (parse_let s hs w).mono ?_
    rintro e w' ⟨hk, ⟨hg, rfl⟩ | ⟨_, rfl⟩⟩
    · exact ⟨hk, .inl ⟨parsed s, parsed_length s, parsed_range s hg, text_parsed s hs hg, rfl⟩⟩
    · exact ⟨hk, .inr rfl⟩
  · refine (parse_len s hs w).mono ?_
    rintro e w' ⟨rfl, hk⟩
    exact ⟨hk, .inr rfl⟩
end Go.Proofs.YtdbogfjkaebeoabDoor

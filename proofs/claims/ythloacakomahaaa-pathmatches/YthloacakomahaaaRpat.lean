/-
  The reference's IsPattern, by contract.
-/
import Derived.Test.YthloacakomahaaaMatch
import Derived.Test.YthloacakomahaaaRparts
namespace Go.Proofs.Ythloacakomahaaa
open Go.RowKit
set_option linter.unusedVariables false
set_option linter.unusedSimpArgs false

/-- Two stars side by side. -/
def two : List UInt8 → Bool
  | a :: b :: l => (a == 42 && b == 42) || two (b :: l)
  | _ => false

theorem two_index : ∀ x : List UInt8, Lib.contains x [42, 42] = two x
  | [] => rfl
  | [a] => by
    rw [two]
    · rw [Lib.contains, Lib.index]
      simp [Lib.hasPrefix, List.isPrefixOf, Lib.index]
    · intro a b l h
      cases h
  | a :: b :: l => by
    have ih := two_index (b :: l)
    rw [two, ← ih, Lib.contains, Lib.contains]
    have hge := Lib.index_ge (b :: l) [42, 42]
    by_cases hab : a = 42 ∧ b = 42
    · obtain ⟨rfl, rfl⟩ := hab
      rw [Lib.index, if_pos (by simp [List.isPrefixOf])]
      rfl
    · have hp : ¬ ([42, 42] : List UInt8).isPrefixOf (a :: b :: l) = true := fun h => by
        simp [List.isPrefixOf] at h
        exact hab ⟨h.1.symm, h.2.symm⟩
      have hq : (a == 42 && b == 42) = false := by
        rw [Bool.eq_false_iff]
        intro h
        simp at h
        exact hab h
      rw [Lib.index, if_neg hp, hq, Bool.false_or, decide_eq_decide]
      by_cases h1 : (Lib.index (b :: l) [42, 42] == -1) = true
      · rw [if_pos h1]
        simp at h1
        omega
      · rw [if_neg h1]
        simp at h1
        omega

theorem two_drop (x : List UInt8) (n : Nat) (h1 : 1 ≤ n) (h2 : n < x.length) : two (x.drop (n - 1)) = ((x[n - 1] == 42 && x[n] == 42) || two (x.drop n)) := by
  rw [List.drop_eq_getElem_cons (show n - 1 < x.length by omega), show n - 1 + 1 = n by omega]
  conv => lhs; rw [List.drop_eq_getElem_cons h2]
  rw [two]
  conv => rhs; rw [List.drop_eq_getElem_cons h2]
theorem two_end (x : List UInt8) (n : Nat) (h1 : 1 ≤ n) (h2 : x.length ≤ n) : two (x.drop (n - 1)) = false := by
  have h3 : (x.drop (n - 1)).length ≤ 1 := by rw [List.length_drop]; omega
  match hx : x.drop (n - 1), h3 with
  | [], _ => rfl
  | [a], _ => rfl
  | _ :: _ :: _, h3 => simp at h3

theorem any_take {l : List (List UInt8)} {k : Nat} {x : List UInt8} (hx : l[k]? = some x) (h : (l.take k).any badPart = false) (hb : badPart x = false) : (l.take (k + 1)).any badPart = false := by
  rw [List.take_add_one, hx, List.any_append, h]
  simp [hb]
theorem any_bad {l : List (List UInt8)} {k : Nat} {x : List UInt8} (hx : l[k]? = some x) (hb : badPart x = true) : l.any badPart = true :=
  List.any_eq_true.2 ⟨x, List.mem_of_getElem? hx, hb⟩

set_option maxRecDepth 100000 in
set_option maxHeartbeats 2000000 in
theorem rpat_any (s : ByteArray) (hs : s.size ≤ 4096) (w : World) :
    Calls Try.prog 44 #[.string s] w fun e w' => e = .returned (.bool (!(partsOf s.data.toList).any badPart)) ∧ Kept (fun _ => False) w w' := by
  have HA := hid_of (rparts_any s (by omega))
  have hle : ∀ x ∈ partsOf s.data.toList, x.length ≤ 4096 := fun x hx => by
    have h1 := parts_le _ _ hx
    have h2 : s.data.toList.length = s.size := by simp
    omega
  obtain ⟨l, hl⟩ : ∃ l, l = partsOf s.data.toList := ⟨_, rfl⟩
  rw [← hl] at HA hle ⊢
  have HLE := hid_of hle
  clear hl hle
  go_enter Try.func44, Try.ntmps44
  go_wp2_with fail
  refine (HA.out _).mono ?_
  rintro e w1 ⟨v1, rfl, ho1, hk1⟩
  have K1 := hid_of hk1
  obtain ⟨s1, c1, rfl, hc1, hm1, hx1⟩ := own_slice ho1
  have HX1 := hid_of hx1
  have hml : l.length ≤ 9223372036854775807 := by unfold maxLen at hm1; omega
  clear HA ho1 hk1 hx1 hc1 hm1
  go_wp2
  go_loopw [4] (fun i wr => ∃ k : Nat, i = .int .i64 k ∧ wr = w1 ∧ k ≤ l.length ∧ (l.take k).any badPart = false) (fun i _ => l.length - (intOf i).toNat)
  case atStart => exact ⟨0, rfl, rfl, by omega, rfl⟩
  case round =>
    obtain ⟨k, rfl, rfl, hk, hT⟩ := hrel
    have HT := hid_of hT
    clear hT
    by_cases h1 : k < l.length
    case neg =>
      have HE : Hid (l.any badPart = false) := by
        have := HT.out
        rwa [List.take_of_length_le (by omega)] at this
      go_wp2
      go_ret
      exact ⟨by rw [HE.out]; rfl, K1.out⟩
    obtain ⟨x, ex⟩ : ∃ x, l[k]? = some x := ⟨_, List.getElem?_eq_getElem h1⟩
    obtain ⟨g1, rfl, hz3, hz4, hg1⟩ := HX1.out k _ (texts_get _ _ _ ex)
    have hxl := HLE.out x (List.mem_of_getElem? ex)
    have EX := hid_of ex
    have hb0 : (0 : Int) ≤ (k : Int) := by omega
    clear ex hz3 hz4
    by_cases hx0 : x = []
    · subst hx0
      have HE : Hid (l.any badPart = true) := any_bad EX.out rfl
      go_wp2
      go_ret
      exact ⟨by rw [HE.out]; rfl, K1.out⟩
    have hx0' : (x == []) = false := by simpa using hx0
    have hx1 : 1 ≤ x.length := by
      cases x with
      | nil => exact absurd rfl hx0
      | cons => simp
    go_wp2
    go_loopw [5] (fun j wr' => ∃ p : Nat, j = .int .i64 ((p : Int) + 1) ∧ wr' = wr ∧ p + 1 ≤ x.length ∧ two x = two (x.drop p)) (fun j _ => x.length - (intOf j).toNat)
    case atStart => exact ⟨0, rfl, rfl, by omega, rfl⟩
    case round =>
      obtain ⟨p, rfl, rfl, hn2, htw⟩ := hrel
      have hpx : p < x.length := by omega
      by_cases h42 : x = [42, 42]
      · have HN : Hid ((l.take (k + 1)).any badPart = false) := any_take EX.out HT.out (by rw [h42]; rfl)
        have h42' : (x == [42, 42]) = true := by simpa using h42
        have H42 := hid_of h42
        clear h42 htw
        by_cases h2 : p + 1 < x.length
        · have hc : (p : Int) + 1 < x.length := by omega
          go_wp2
          exact ⟨⟨k + 1, rfl, trivial, h1, HN.out⟩, by simp [intOf]; omega⟩
        · have hc : ¬ (p : Int) + 1 < x.length := by omega
          go_wp2
          exact ⟨⟨k + 1, rfl, trivial, h1, HN.out⟩, by simp [intOf]; omega⟩
      have h42' : (x == [42, 42]) = false := by simpa using h42
      by_cases h2 : p + 1 < x.length
      · rw [show p = p + 1 - 1 by omega, two_drop x (p + 1) (by omega) h2] at htw
        have hc : (p : Int) + 1 < x.length := by omega
        have HTW := hid_of htw
        have e1 : ((⟨x.toArray⟩ : ByteArray)[p]'hpx) = x[p] := rfl
        have e2 : ((⟨x.toArray⟩ : ByteArray)[p + 1]'h2) = x[p + 1] := rfl
        clear htw
        by_cases a1 : (((⟨x.toArray⟩ : ByteArray)[p]'hpx).toNat : Int) = 42
        · have a1' : ((((⟨x.toArray⟩ : ByteArray)[p]'hpx).toNat : Int) == 42) = true := by simpa using a1
          have b1 : x[p] = 42 := UInt8.toNat_inj.1 (by rw [← e1]; show _ = 42; omega)
          by_cases a2 : (((⟨x.toArray⟩ : ByteArray)[p + 1]'h2).toNat : Int) = 42
          · have a2' : ((((⟨x.toArray⟩ : ByteArray)[p + 1]'h2).toNat : Int) == 42) = true := by simpa using a2
            have b2 : x[p + 1] = 42 := UInt8.toNat_inj.1 (by rw [← e2]; show _ = 42; omega)
            have HE : Hid (l.any badPart = true) := by
              refine any_bad EX.out ?_
              rw [badPart, two_index, HTW.out]
              simp [b1, b2, h42]
            clear b1 b2 e1 e2
            go_wp2
            go_ret
            exact ⟨by rw [HE.out]; rfl, K1.out⟩
          · have a2' : ((((⟨x.toArray⟩ : ByteArray)[p + 1]'h2).toNat : Int) == 42) = false := by simpa using a2
            have HN : Hid (two x = two (x.drop (p + 1))) := by
              have b2 : (x[p + 1] == 42) = false := by
                rw [beq_eq_false_iff_ne]
                intro e
                rw [e2, e] at a2
                exact a2 rfl
              have := HTW.out
              rw [b2, Bool.and_false, Bool.false_or] at this
              exact this
            clear b1 e1 e2
            go_wp2
            exact ⟨⟨p + 1, rfl, trivial, h2, HN.out⟩, by simp [intOf]; omega⟩
        · have a1' : ((((⟨x.toArray⟩ : ByteArray)[p]'hpx).toNat : Int) == 42) = false := by simpa using a1
          have HN : Hid (two x = two (x.drop (p + 1))) := by
            have b1 : (x[p + 1 - 1] == 42) = false := by
              rw [beq_eq_false_iff_ne]
              intro e
              have e' : x[p] = 42 := e
              rw [e1, e'] at a1
              exact a1 rfl
            have := HTW.out
            rw [b1, Bool.false_and, Bool.false_or] at this
            exact this
          clear e1 e2
          go_wp2
          exact ⟨⟨p + 1, rfl, trivial, h2, HN.out⟩, by simp [intOf]; omega⟩
      · have hc : ¬ (p : Int) + 1 < x.length := by omega
        have HN : Hid ((l.take (k + 1)).any badPart = false) := any_take EX.out HT.out (by
          rw [badPart, two_index, htw]
          have := two_end x (p + 1) (by omega) (by omega)
          rw [show p + 1 - 1 = p by omega] at this
          rw [this]
          cases x with
          | nil => exact absurd rfl hx0
          | cons => simp)
        clear htw
        go_wp2
        exact ⟨⟨k + 1, rfl, trivial, h1, HN.out⟩, by simp [intOf]; omega⟩
end Go.Proofs.Ythloacakomahaaa

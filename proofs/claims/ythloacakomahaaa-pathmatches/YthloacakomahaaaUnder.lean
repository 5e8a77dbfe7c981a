/-
  strings.CutPrefix and path.Under by contract.
-/
import Derived.Test.YthloacakomahaaaLess
namespace Go.Proofs.Ythloacakomahaaa
open Go.RowKit
set_option linter.unusedVariables false
set_option linter.unusedSimpArgs false

theorem extract_list (s : ByteArray) (i j : Nat) : (s.extract i j).data.toList = (s.data.toList.take j).drop i := by
  rw [ByteArray.data_extract, Array.toList_extract, List.extract_eq_take_drop, List.drop_take]

/-- Whether p stands at the front of s. -/
def front (s p : ByteArray) : Bool := decide (p.size ≤ s.size) && ((s.extract 0 p.size).toList == p.toList)

theorem front_iff (s p : ByteArray) : front s p = true ↔ p.data.toList <+: s.data.toList := by
  rw [front, Bool.and_eq_true, decide_eq_true_eq, beq_iff_eq, ByteArray.toList_eq, ByteArray.toList_eq, extract_list, List.drop_zero, List.prefix_iff_eq_take]
  constructor
  · rintro ⟨_, h⟩
    simpa using h.symm
  · intro h
    have h2 : p.data.toList = s.data.toList.take p.size := by simpa using h
    refine ⟨?_, h2.symm⟩
    have h3 := congrArg List.length h2
    simp at h3
    omega

set_option maxRecDepth 100000 in
set_option maxHeartbeats 1000000 in
theorem front_any (s p : ByteArray) (w : World) :
    Calls Try.prog 72 #[.string s, .string p] w fun e w' => e = .returned (.bool (front s p)) ∧ w' = w := by
  go_enter Try.func72, Try.ntmps72
  by_cases h : p.size ≤ s.size
  · go_wp2
    go_ret
    exact ⟨by rw [front, decide_eq_true h]; rfl, rfl⟩
  · go_wp2
    go_ret
    exact ⟨by rw [front, decide_eq_false h]; rfl, rfl⟩

/-- What CutPrefix tells. -/
def cutOff (s p : ByteArray) : ByteArray := if front s p then s.extract p.size s.size else s

set_option maxRecDepth 100000 in
set_option maxHeartbeats 1000000 in
theorem cutP_in (s p : ByteArray) (w : World) :
    Calls Try.prog 58 #[.string s, .string p] w fun e w' => e = .returned (.tuple #[.string (cutOff s p), .bool (front s p)]) ∧ w' = w := by
  have HF := hid_of (front_any s p)
  go_enter Try.func58, Try.ntmps58
  have hle : front s p = true → p.size ≤ s.size := fun h => by
    rw [front, Bool.and_eq_true, decide_eq_true_eq] at h
    exact h.1
  have HE : Hid (cutOff s p = if front s p then s.extract p.size s.size else s) := rfl
  generalize front s p = f at *
  generalize cutOff s p = c at *
  go_wp2_with fail
  refine (HF.out _).mono ?_
  rintro e w1 ⟨rfl, rfl⟩
  cases f
  · go_wp2
    have hc : c = s := HE.out
    subst hc
    exact bodyPost_ret (v := .tuple #[.string c, .bool false]) (by simp [results, Try.results58, go_sem]) rfl ⟨rfl, rfl⟩
  · have hp := hle rfl
    have hc : c = s.extract p.size s.size := HE.out
    go_wp2
    subst hc
    exact bodyPost_ret (v := .tuple #[.string (s.extract p.size s.size), .bool true]) (by simp [results, Try.results58, go_sem]) rfl ⟨rfl, rfl⟩

set_option maxRecDepth 100000 in
set_option maxHeartbeats 1000000 in
theorem cutP_any (s p : ByteArray) (w : World) :
    Calls Try.prog 38 #[.string s, .string p] w fun e w' => e = .returned (.tuple #[.string (cutOff s p), .bool (front s p)]) ∧ w' = w := by
  have HF := hid_of (cutP_in s p)
  go_enter Try.func38, Try.ntmps38
  go_wp2_with fail
  refine (HF.out _).mono ?_
  rintro e w1 ⟨rfl, rfl⟩
  go_wp2
  exact bodyPost_ret (v := .tuple #[.string (cutOff s p), .bool (front s p)]) (by simp [results, Try.results38, go_sem]) rfl ⟨rfl, rfl⟩

/-- Whether b is a, or lies below it. -/
def underB (a b : ByteArray) : Bool := front b a && (a.toList == [] || (cutOff b a).toList == [] || (cutOff b a).toList.head? == some 47)

set_option maxRecDepth 100000 in
set_option maxHeartbeats 1000000 in
theorem under_any (a b : ByteArray) (w : World) :
    Calls Try.prog 26 #[.string a, .string b] w fun e w' => e = .returned (.bool (underB a b)) ∧ w' = w := by
  have HF := hid_of (cutP_any b a)
  have HU : Hid (underB a b = (front b a && (a.toList == [] || (cutOff b a).toList == [] || (cutOff b a).toList.head? == some 47))) := rfl
  generalize underB a b = u at *
  generalize front b a = f at *
  generalize cutOff b a = c at *
  go_enter Try.func26, Try.ntmps26
  go_wp2_with fail
  refine (HF.out _).mono ?_
  rintro e w1 ⟨rfl, rfl⟩
  clear HF
  cases f
  · go_wp2
    go_ret
    exact ⟨by rw [HU.out]; rfl, rfl⟩
  · by_cases h1 : a.toList = []
    · go_wp2
      go_ret
      exact ⟨by rw [HU.out, h1]; rfl, rfl⟩
    · by_cases h2 : c.toList = []
      · go_wp2
        go_ret
        exact ⟨by rw [HU.out, h2]; simp, rfl⟩
      · have h3 : 0 < c.size := by
          rcases Nat.eq_zero_or_pos c.size with h | h
          · refine absurd (List.eq_nil_of_length_eq_zero ?_) h2
            rw [ByteArray.toList_eq]
            simpa using h
          · exact h
        have HV : Hid (u = ((c[0].toNat : Int) == 47)) := by
          have e0 : c.toList.head? = some c[0] := by
            rw [ByteArray.toList_eq, ← List.drop_zero (l := c.data.toList), drop_at c 0 h3]
            rfl
          have e1 : (a.toList == []) = false := by simpa using h1
          have e2 : (c.toList == []) = false := by simpa using h2
          show u = _
          rw [HU.out, e0, e1, e2, Bool.eq_iff_iff]
          simp only [Bool.true_and, Bool.false_or, beq_iff_eq, Option.some.injEq, ← UInt8.toNat_inj]
          show c[0].toNat = 47 ↔ _
          omega
        have e1 : a.toList.isEmpty = false := by simpa using h1
        have e2 : c.toList.isEmpty = false := by simpa using h2
        clear HU
        go_wp2
        go_ret
        exact ⟨by rw [HV.out]; simp [e1, e2], rfl⟩
end Go.Proofs.Ythloacakomahaaa

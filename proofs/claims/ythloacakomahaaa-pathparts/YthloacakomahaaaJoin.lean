/-
  path.Join, the reference's Join and Split by contract.
-/
import Derived.Test.YthloacakomahaaaCleans
namespace Go.Proofs.Ythloacakomahaaa
open Go.RowKit
set_option linter.unusedVariables false
set_option linter.unusedSimpArgs false

theorem depth_split : ∀ l : List UInt8, (splitB l).length = l.count 47 + 1
  | [] => rfl
  | c :: l => by
    have ih := depth_split l
    obtain ⟨p, ps, e⟩ := splitB_some l
    by_cases hc : c = 47
    · rw [(splitB_cons c l).1 hc, hc, List.length_cons, ih, List.count_cons_self]
    · rw [(splitB_cons c l).2 hc _ _ e, List.count_cons_of_ne (fun h => hc h), ← ih, e]
      rfl
theorem depth_parts (l : List UInt8) : depthOf l = ((partsOf l).length : Int) := by
  rw [depthOf, partsOf]
  split
  · rfl
  · rw [depth_split]
    omega

/-- What Join tells. -/
def joinOf (d n : List UInt8) : List UInt8 × Int :=
  if isClean d = false ∨ isName n = false then ([], 31) else if depthOf d = 32 then ([], 33) else (if d = [] then n else d ++ 47 :: n, 0)

theorem toList_data (s : ByteArray) : s.toList = s.data.toList := ByteArray.toList_eq ..

set_option maxRecDepth 100000 in
set_option maxHeartbeats 1000000 in
theorem join_call (HR : HighRunes) (s t : ByteArray) (hs : s.size ≤ 16777216) (ht : t.size ≤ 9223372036854775807) (w : World) :
    Calls Try.prog 18 #[.string s, .string t] w fun e w' => e = .returned (.tuple #[.string ⟨(joinOf s.data.toList t.data.toList).1.toArray⟩, .int .i64 (joinOf s.data.toList t.data.toList).2]) ∧ Kept (fun _ => False) w w' := by
  have HI := hid_of (isclean_full HR s)
  have HN : Hid (∀ w, Calls Try.prog 12 #[.string t] w fun e w' => e = .returned (.bool (isName t.data.toList)) ∧ Kept (fun _ => False) w w') := fun w => isname_full HR t.data.toList w
  have HD := hid_of (depth_any s (by omega))
  obtain ⟨c, hcd⟩ : ∃ c, c = joinOf s.data.toList t.data.toList := ⟨_, rfl⟩
  rw [← hcd]
  cases hcl : isClean s.data.toList with
  | false =>
    rw [hcl] at HI
    rw [joinOf, if_pos (.inl hcl)] at hcd
    have HE := hid_of hcd
    clear hcd HN HD
    go_enter Try.func18, Try.ntmps18
    go_wp2_with fail
    refine (HI.out _).mono ?_
    rintro e w1 ⟨rfl, hk⟩
    have K1 := hid_of hk
    clear hk HI
    go_wp2
    exact bodyPost_ret (v := .tuple #[.string ⟨#[]⟩, .int .i64 31]) (by simp [results, Try.results18, go_sem]) rfl ⟨by rw [HE.out], K1.out⟩
  | true =>
    rw [hcl] at HI
    cases hnm : isName t.data.toList with
    | false =>
      rw [hnm] at HN
      rw [joinOf, if_pos (.inr hnm)] at hcd
      have HE := hid_of hcd
      clear hcd HD
      go_enter Try.func18, Try.ntmps18
      go_wp2_with fail
      refine (HI.out _).mono ?_
      rintro e w1 ⟨rfl, hk⟩
      have K1 := hid_of hk
      clear hk HI
      go_wp2_with fail
      refine (HN.out _).mono ?_
      rintro e w2 ⟨rfl, hk⟩
      have K2 := hid_of (K1.out.trans hk)
      clear hk HN
      go_wp2
      exact bodyPost_ret (v := .tuple #[.string ⟨#[]⟩, .int .i64 31]) (by simp [results, Try.results18, go_sem]) rfl ⟨by rw [HE.out], K2.out⟩
    | true =>
      rw [hnm] at HN
      have ht64 : t.size ≤ 64 := by
        have h1 := (name_ok hnm).2.1
        have h2 : t.data.toList.length = t.size := by simp
        omega
      rw [joinOf, if_neg (by rw [hcl, hnm]; simp)] at hcd
      by_cases h32 : depthOf s.data.toList = 32
      · rw [if_pos h32] at hcd
        rw [h32] at HD
        have HE := hid_of hcd
        clear hcd
        go_enter Try.func18, Try.ntmps18
        go_wp2_with fail
        refine (HI.out _).mono ?_
        rintro e w1 ⟨rfl, hk⟩
        have K1 := hid_of hk
        clear hk HI
        go_wp2_with fail
        refine (HN.out _).mono ?_
        rintro e w2 ⟨rfl, hk⟩
        have K2 := hid_of (K1.out.trans hk)
        clear hk HN
        go_wp2_with fail
        refine (HD.out _).mono ?_
        rintro e w3 ⟨rfl, rfl⟩
        clear HD
        go_wp2
        exact bodyPost_ret (v := .tuple #[.string ⟨#[]⟩, .int .i64 33]) (by simp [results, Try.results18, go_sem]) rfl ⟨by rw [HE.out], K2.out⟩
      · rw [if_neg h32] at hcd
        have hd : (depthOf s.data.toList == 32) = false := by rw [beq_eq_false_iff_ne]; exact h32
        generalize depthOf s.data.toList = dep at *
        by_cases h0 : s.data.toList = []
        · rw [if_pos h0] at hcd
          have HE := hid_of hcd
          have HCL := hid_of (fun w => clone_any t w (by omega))
          rw [← toList_data] at h0
          clear hcd
          go_enter Try.func18, Try.ntmps18
          go_wp2_with fail
          refine (HI.out _).mono ?_
          rintro e w1 ⟨rfl, hk⟩
          have K1 := hid_of hk
          clear hk HI
          go_wp2_with fail
          refine (HN.out _).mono ?_
          rintro e w2 ⟨rfl, hk⟩
          have K2 := hid_of (K1.out.trans hk)
          clear hk HN
          go_wp2_with fail
          refine (HD.out _).mono ?_
          rintro e w3 ⟨rfl, rfl⟩
          clear HD
          go_wp2_with fail
          refine (HCL.out _).mono ?_
          rintro e w4 ⟨rfl, hk⟩
          have K4 := hid_of (K2.out.trans hk)
          clear hk HCL
          go_wp2
          exact bodyPost_ret (v := .tuple #[.string t, .int .i64 0]) (by simp [results, Try.results18, go_sem]) rfl ⟨by rw [HE.out], K4.out⟩
        · rw [if_neg h0] at hcd
          have HE := hid_of hcd
          have h2 : s.toList.isEmpty = false := by
            rw [← toList_data] at h0
            simpa using h0
          clear hcd h0
          go_enter Try.func18, Try.ntmps18
          go_wp2_with fail
          refine (HI.out _).mono ?_
          rintro e w1 ⟨rfl, hk⟩
          have K1 := hid_of hk
          clear hk HI
          go_wp2_with fail
          refine (HN.out _).mono ?_
          rintro e w2 ⟨rfl, hk⟩
          have K2 := hid_of (K1.out.trans hk)
          clear hk HN
          go_wp2_with fail
          refine (HD.out _).mono ?_
          rintro e w3 ⟨rfl, rfl⟩
          clear HD
          go_wp2
          refine bodyPost_ret (v := .tuple #[.string (s ++ ⟨#[47]⟩ ++ t), .int .i64 0]) (by simp [results, Try.results18, go_sem]) rfl ⟨?_, K2.out⟩
          rw [HE.out]
          have : (s ++ ⟨#[47]⟩ ++ t : ByteArray) = ⟨(s.data.toList ++ 47 :: t.data.toList).toArray⟩ := ByteArray.ext (by apply Array.ext'; simp)
          rw [this]

set_option maxRecDepth 100000 in
set_option maxHeartbeats 1000000 in
theorem rname_full (s : ByteArray) (hs : s.size ≤ 9223372036854775807) (w : World) :
    Calls Try.prog 13 #[.string s] w fun e w' => e = .returned (.bool (isName s.data.toList)) ∧ w' = w := by
  by_cases h : s.size < 2 ^ 62
  · exact rname_any s h w
  · have hl : s.data.toList.length = s.size := by simp
    have HE : Hid (isName s.data.toList = false) := by
      show _ = _
      rw [isName, hl, decide_eq_false (by omega : ¬ s.size ≤ 64)]
      simp
    have h1 : ¬ s.size < 1 := by omega
    have h2 : 64 < s.size := by omega
    clear hl h
    go_enter Try.func13, Try.ntmps13
    go_wp2
    go_ret
    exact ⟨by rw [HE.out]; rfl, rfl⟩
end Go.Proofs.Ythloacakomahaaa

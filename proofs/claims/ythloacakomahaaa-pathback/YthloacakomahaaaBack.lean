/-
  PathBack: the walk.
-/
import Derived.Test.YthloacakomahaaaSplit
import Derived.Test.YthloacakomahaaaPback
import Derived.Test.YthloacakomahaaaKnown
namespace Go.Proofs.Ythloacakomahaaa
open Go.RowKit
set_option linter.unusedVariables false
set_option linter.unusedSimpArgs false

set_option maxRecDepth 100000 in
set_option maxHeartbeats 4000000 in
theorem back_walk (HR : HighRunes) (s t : ByteArray) (hs : s.size ≤ 9223372036854775807) (ht : t.size ≤ 9223372036854775807) (w : World) :
    Calls Try.prog 7 #[.string s, .string t] w fun e w' => e = .returned (.bool true) ∧ Kept (fun _ => False) w w' := by
  obtain ⟨l, rfl⟩ : ∃ l : List UInt8, s = ⟨l.toArray⟩ := ⟨s.data.toList, bytes_eq rfl⟩
  obtain ⟨n, rfl⟩ : ∃ n : List UInt8, t = ⟨n.toArray⟩ := ⟨t.data.toList, bytes_eq rfl⟩
  have HK := hid_of known_any
  have hsl : (⟨l.toArray⟩ : ByteArray).size = l.length := rfl
  have hst : (⟨n.toArray⟩ : ByteArray).size = n.length := rfl
  rw [hsl] at hs
  rw [hst] at ht
  by_cases h1 : 16777216 < l.length
  · go_enter Try.func7, Try.ntmps7
    go_wp2_with fail
    refine (HK.out _).mono ?_
    rintro e w1 ⟨rfl, hk⟩
    have K1 := hid_of hk
    clear hk HK
    go_wp2
    go_ret
    exact ⟨rfl, K1.out⟩
  have A1 : Hid (∀ w, Calls Try.prog 10 #[.string ⟨l.toArray⟩] w fun e w' => e = .returned (.tuple #[.string ⟨(cleanOf l).1.toArray⟩, .int .i64 (cleanOf l).2]) ∧ Kept (fun _ => False) w w') := clean_full HR ⟨l.toArray⟩
  have A4 : Hid (∀ w, Calls Try.prog 14 #[.string ⟨l.toArray⟩] w fun e w' => e = .returned (.bool (isClean l)) ∧ Kept (fun _ => False) w w') := isclean_full HR ⟨l.toArray⟩
  obtain ⟨p, c, hc⟩ : ∃ p c, cleanOf l = (p, c) := ⟨_, _, rfl⟩
  rw [hc] at A1
  by_cases hc0 : c = 0
  case neg =>
    obtain rfl := clean_err l p c hc hc0
    have e0 : (c == 0) = false := by rw [beq_eq_false_iff_ne]; exact hc0
    clear A4 hc
    go_enter Try.func7, Try.ntmps7
    go_wp2_with fail
    refine (HK.out _).mono ?_
    rintro e w1 ⟨rfl, hk⟩
    have K1 := hid_of hk
    clear hk HK
    go_wp2_with fail
    refine (A1.out _).mono ?_
    rintro e w2 ⟨rfl, hk⟩
    have K2 := hid_of (K1.out.trans hk)
    clear hk A1
    go_wp2
    go_ret
    exact ⟨rfl, K2.out⟩
  subst hc0
  rw [clean_same l p hc] at A4
  obtain ⟨R, hR, hRl, rfl⟩ := clean_row l p hc
  obtain ⟨r1, r2, r3, r4, r5⟩ := row_clean R hR hRl
  have A2 : Hid (∀ w, Calls Try.prog 10 #[.string ⟨(joinP R).toArray⟩] w fun e w' => e = .returned (.tuple #[.string ⟨(joinP R).toArray⟩, .int .i64 0]) ∧ Kept (fun _ => False) w w') := fun w => by
    have := clean_full HR ⟨(joinP R).toArray⟩ w
    rwa [show cleanOf (⟨(joinP R).toArray⟩ : ByteArray).data.toList = (joinP R, 0) from r3] at this
  have A3 : Hid (∀ w, Calls Try.prog 14 #[.string ⟨(joinP R).toArray⟩] w fun e w' => e = .returned (.bool true) ∧ Kept (fun _ => False) w w') := fun w => by
    have := isclean_full HR ⟨(joinP R).toArray⟩ w
    rwa [show isClean (⟨(joinP R).toArray⟩ : ByteArray).data.toList = true from r2] at this
  have AJ : Hid (∀ w, Calls Try.prog 18 #[.string ⟨(joinP R).toArray⟩, .string ⟨n.toArray⟩] w fun e w' => e = .returned (.tuple #[.string ⟨(joinOf (joinP R) n).1.toArray⟩, .int .i64 (joinOf (joinP R) n).2]) ∧ Kept (fun _ => False) w w') := join_call HR ⟨(joinP R).toArray⟩ ⟨n.toArray⟩ (show (joinP R).length ≤ 16777216 by omega) ht
  have AN : Hid (∀ w, Calls Try.prog 12 #[.string ⟨n.toArray⟩] w fun e w' => e = .returned (.bool (isName n)) ∧ Kept (fun _ => False) w w') := isname_full HR n
  have AD : Hid (∀ w, Calls Try.prog 23 #[.string ⟨(joinP R).toArray⟩] w fun e w' => e = .returned (.int .i64 R.length) ∧ w' = w) := fun w => by
    have := depth_any ⟨(joinP R).toArray⟩ (show (joinP R).length < 2 ^ 62 by omega) w
    rwa [show depthOf (⟨(joinP R).toArray⟩ : ByteArray).data.toList = (R.length : Int) from r4] at this
  obtain ⟨j1, j2, j3⟩ := join_row R n hR hRl
  -- the tail
  have TL : R = [] ∨ ∃ (I : List (List UInt8)) (x : List UInt8), (joinP R).isEmpty = false ∧ Hid (∀ w, Calls Try.prog 16 #[.string ⟨(joinP R).toArray⟩] w fun e w' => e = .returned (.tuple #[.string ⟨(joinP I).toArray⟩, .string ⟨x.toArray⟩, .int .i64 0]) ∧ Kept (fun _ => False) w w') ∧ Hid (∀ w, Calls Try.prog 18 #[.string ⟨(joinP I).toArray⟩, .string ⟨x.toArray⟩] w fun e w' => e = .returned (.tuple #[.string ⟨(joinP R).toArray⟩, .int .i64 0]) ∧ Kept (fun _ => False) w w') := by
    rcases List.eq_nil_or_concat R with h | ⟨I, x, h⟩
    · exact .inl h
    · rw [List.concat_eq_append] at h
      subst h
      have hI : ∀ y ∈ I, isName y = true := fun y hy => hR y (List.mem_append_left _ hy)
      have hx : isName x = true := hR x (List.mem_append_right _ (List.mem_singleton.2 rfl))
      have hIl : I.length < 32 := by simp at hRl; omega
      have s1 := split_row I x hR hRl
      have s2 := (join_row I x hI (by omega)).2.2 hx hIl
      refine .inr ⟨I, x, ?_, fun w => ?_, fun w => ?_⟩
      · cases hj : joinP (I ++ [x]) with
        | nil => rw [hj] at r1; rw [show partsOf [] = [] from rfl] at r1; simp at r1
        | cons a b => rfl
      · have := split_any HR ⟨(joinP (I ++ [x])).toArray⟩ (show (joinP (I ++ [x])).length ≤ 16777216 by omega) w
        rwa [show splitOf (⟨(joinP (I ++ [x])).toArray⟩ : ByteArray).data.toList = (joinP I, x, 0) from s1] at this
      · have hb := (row_clean I hI (by omega)).2.2.2.2
        have hxl := (name_ok hx).2.1
        have := join_call HR ⟨(joinP I).toArray⟩ ⟨x.toArray⟩ (show (joinP I).length ≤ 16777216 by omega) (show x.length ≤ 9223372036854775807 by omega) w
        rwa [show joinOf (⟨(joinP I).toArray⟩ : ByteArray).data.toList (⟨x.toArray⟩ : ByteArray).data.toList = (joinP (I ++ [x]), 0) from s2] at this
  cases hnm : isName n with
  | false =>
    rw [j1 hnm] at AJ
    rw [hnm] at AN
    clear j1 j2 j3 r3 r4 hc
    rcases TL with rfl | ⟨I, x, TE, TS, TJ⟩
    · have ep : joinP [] = [] := rfl
      rw [ep] at *
      go_enter Try.func7, Try.ntmps7
      go_wp2_with fail
      refine (HK.out _).mono ?_
      rintro e w1 ⟨rfl, hk⟩
      have K1 := hid_of (hk)
      clear hk
      go_wp2_with fail
      refine (A1.out _).mono ?_
      rintro e w2 ⟨rfl, hk⟩
      have K2 := hid_of (K1.out.trans hk)
      clear hk
      go_wp2_with fail
      refine (A2.out _).mono ?_
      rintro e w3 ⟨rfl, hk⟩
      have K3 := hid_of (K2.out.trans hk)
      clear hk
      go_wp2_with fail
      refine (A3.out _).mono ?_
      rintro e w4 ⟨rfl, hk⟩
      have K4 := hid_of (K3.out.trans hk)
      clear hk
      go_wp2_with fail
      refine (A4.out _).mono ?_
      rintro e w5 ⟨rfl, hk⟩
      have K5 := hid_of (K4.out.trans hk)
      clear hk
      go_wp2_with fail
      refine (AJ.out _).mono ?_
      rintro e w6 ⟨rfl, hk⟩
      have K6 := hid_of (K5.out.trans hk)
      clear hk
      go_wp2_with fail
      refine (AN.out _).mono ?_
      rintro e w7 ⟨rfl, hk⟩
      have K7 := hid_of (K6.out.trans hk)
      clear hk
      go_wp2
      go_ret
      exact ⟨by first | rfl | (refine congrArg Ending.returned ?_; simp), K7.out⟩
    · clear r1
      generalize joinP R = p at *
      generalize joinP I = pi at *
      go_enter Try.func7, Try.ntmps7
      go_wp2_with fail
      refine (HK.out _).mono ?_
      rintro e w1 ⟨rfl, hk⟩
      have K1 := hid_of (hk)
      clear hk
      go_wp2_with fail
      refine (A1.out _).mono ?_
      rintro e w2 ⟨rfl, hk⟩
      have K2 := hid_of (K1.out.trans hk)
      clear hk
      go_wp2_with fail
      refine (A2.out _).mono ?_
      rintro e w3 ⟨rfl, hk⟩
      have K3 := hid_of (K2.out.trans hk)
      clear hk
      go_wp2_with fail
      refine (A3.out _).mono ?_
      rintro e w4 ⟨rfl, hk⟩
      have K4 := hid_of (K3.out.trans hk)
      clear hk
      go_wp2_with fail
      refine (A4.out _).mono ?_
      rintro e w5 ⟨rfl, hk⟩
      have K5 := hid_of (K4.out.trans hk)
      clear hk
      go_wp2_with fail
      refine (AJ.out _).mono ?_
      rintro e w6 ⟨rfl, hk⟩
      have K6 := hid_of (K5.out.trans hk)
      clear hk
      go_wp2_with fail
      refine (AN.out _).mono ?_
      rintro e w7 ⟨rfl, hk⟩
      have K7 := hid_of (K6.out.trans hk)
      clear hk
      go_wp2_with fail
      refine (TS.out _).mono ?_
      rintro e w8 ⟨rfl, hk⟩
      have K8 := hid_of (K7.out.trans hk)
      clear hk
      go_wp2_with fail
      refine (TJ.out _).mono ?_
      rintro e w9 ⟨rfl, hk⟩
      have K9 := hid_of (K8.out.trans hk)
      clear hk
      go_wp2
      go_ret
      exact ⟨by first | rfl | (refine congrArg Ending.returned ?_; simp), K9.out⟩
  | true =>
    rw [hnm] at AN
    by_cases h32 : R.length = 32
    · rw [j2 hnm h32] at AJ
      rw [h32] at AD
      clear j1 j2 j3 r3 r4 hc
      rcases TL with rfl | ⟨I, x, TE, TS, TJ⟩
      · simp at h32
      · clear r1
        generalize joinP R = p at *
        generalize joinP I = pi at *
        go_enter Try.func7, Try.ntmps7
        go_wp2_with fail
        refine (HK.out _).mono ?_
        rintro e w1 ⟨rfl, hk⟩
        have K1 := hid_of (hk)
        clear hk
        go_wp2_with fail
        refine (A1.out _).mono ?_
        rintro e w2 ⟨rfl, hk⟩
        have K2 := hid_of (K1.out.trans hk)
        clear hk
        go_wp2_with fail
        refine (A2.out _).mono ?_
        rintro e w3 ⟨rfl, hk⟩
        have K3 := hid_of (K2.out.trans hk)
        clear hk
        go_wp2_with fail
        refine (A3.out _).mono ?_
        rintro e w4 ⟨rfl, hk⟩
        have K4 := hid_of (K3.out.trans hk)
        clear hk
        go_wp2_with fail
        refine (A4.out _).mono ?_
        rintro e w5 ⟨rfl, hk⟩
        have K5 := hid_of (K4.out.trans hk)
        clear hk
        go_wp2_with fail
        refine (AJ.out _).mono ?_
        rintro e w6 ⟨rfl, hk⟩
        have K6 := hid_of (K5.out.trans hk)
        clear hk
        go_wp2_with fail
        refine (AN.out _).mono ?_
        rintro e w7 ⟨rfl, hk⟩
        have K7 := hid_of (K6.out.trans hk)
        clear hk
        go_wp2_with fail
        refine (AD.out _).mono ?_
        rintro e w8 ⟨rfl, rfl⟩
        have K8 := K7
        go_wp2_with fail
        refine (TS.out _).mono ?_
        rintro e w9 ⟨rfl, hk⟩
        have K9 := hid_of (K8.out.trans hk)
        clear hk
        go_wp2_with fail
        refine (TJ.out _).mono ?_
        rintro e w10 ⟨rfl, hk⟩
        have K10 := hid_of (K9.out.trans hk)
        clear hk
        go_wp2
        go_ret
        exact ⟨by first | rfl | (refine congrArg Ending.returned ?_; simp), K10.out⟩
    · have hlt : R.length < 32 := by omega
      rw [j3 hnm hlt] at AJ
      have hRn : ∀ y ∈ R ++ [n], isName y = true := fun y hy => by
        rcases List.mem_append.1 hy with h | h
        · exact hR y h
        · rw [List.mem_singleton.1 h]; exact hnm
      obtain ⟨q1, q2, q3, q4, q5⟩ := row_clean (R ++ [n]) hRn (by simp; omega)
      have s1 := split_row R n hRn (by simp; omega)
      have QS : Hid (∀ w, Calls Try.prog 16 #[.string ⟨(joinP (R ++ [n])).toArray⟩] w fun e w' => e = .returned (.tuple #[.string ⟨(joinP R).toArray⟩, .string ⟨n.toArray⟩, .int .i64 0]) ∧ Kept (fun _ => False) w w') := fun w => by
        have := split_any HR ⟨(joinP (R ++ [n])).toArray⟩ (show (joinP (R ++ [n])).length ≤ 16777216 by omega) w
        rwa [show splitOf (⟨(joinP (R ++ [n])).toArray⟩ : ByteArray).data.toList = (joinP R, n, 0) from s1] at this
      have QC : Hid (∀ w, Calls Try.prog 14 #[.string ⟨(joinP (R ++ [n])).toArray⟩] w fun e w' => e = .returned (.bool true) ∧ Kept (fun _ => False) w w') := fun w => by
        have := isclean_full HR ⟨(joinP (R ++ [n])).toArray⟩ w
        rwa [show isClean (⟨(joinP (R ++ [n])).toArray⟩ : ByteArray).data.toList = true from q2] at this
      have QD : Hid (∀ w, Calls Try.prog 23 #[.string ⟨(joinP (R ++ [n])).toArray⟩] w fun e w' => e = .returned (.int .i64 ((R.length : Int) + 1)) ∧ w' = w) := fun w => by
        have := depth_any ⟨(joinP (R ++ [n])).toArray⟩ (show (joinP (R ++ [n])).length < 2 ^ 62 by omega) w
        rwa [show depthOf (⟨(joinP (R ++ [n])).toArray⟩ : ByteArray).data.toList = ((R.length : Int) + 1) from by rw [show (⟨(joinP (R ++ [n])).toArray⟩ : ByteArray).data.toList = joinP (R ++ [n]) from rfl, q4]; simp] at this
      have QU : Hid (∀ w, Calls Try.prog 26 #[.string ⟨(joinP R).toArray⟩, .string ⟨(joinP (R ++ [n])).toArray⟩] w fun e w' => e = .returned (.bool true) ∧ Kept (fun _ => False) w w') := fun w => by
        have h := (under_any ⟨(joinP R).toArray⟩ ⟨(joinP (R ++ [n])).toArray⟩ w).mono (R' := fun e w' => e = .returned (.bool (underB ⟨(joinP R).toArray⟩ ⟨(joinP (R ++ [n])).toArray⟩)) ∧ Kept (fun _ => False) w w') (fun e w' h => ⟨h.1, by rw [h.2]; exact Kept.refl _ _⟩)
        rwa [under_parts, show partsOf (⟨(joinP R).toArray⟩ : ByteArray).data.toList = R from r1, show partsOf (⟨(joinP (R ++ [n])).toArray⟩ : ByteArray).data.toList = R ++ [n] from q1, show R.isPrefixOf (R ++ [n]) = true from by rw [List.isPrefixOf_iff_prefix]; exact List.prefix_append _ _] at h
      clear j1 j2 j3 r3 r4 hc s1 q1 q3 q4 hRn
      generalize joinP (R ++ [n]) = q at *
      rcases TL with rfl | ⟨I, x, TE, TS, TJ⟩
      · have ep : joinP [] = [] := rfl
        rw [ep] at *
        go_enter Try.func7, Try.ntmps7
        go_wp2_with fail
        refine (HK.out _).mono ?_
        rintro e w1 ⟨rfl, hk⟩
        have K1 := hid_of (hk)
        clear hk
        go_wp2_with fail
        refine (A1.out _).mono ?_
        rintro e w2 ⟨rfl, hk⟩
        have K2 := hid_of (K1.out.trans hk)
        clear hk
        go_wp2_with fail
        refine (A2.out _).mono ?_
        rintro e w3 ⟨rfl, hk⟩
        have K3 := hid_of (K2.out.trans hk)
        clear hk
        go_wp2_with fail
        refine (A3.out _).mono ?_
        rintro e w4 ⟨rfl, hk⟩
        have K4 := hid_of (K3.out.trans hk)
        clear hk
        go_wp2_with fail
        refine (A4.out _).mono ?_
        rintro e w5 ⟨rfl, hk⟩
        have K5 := hid_of (K4.out.trans hk)
        clear hk
        go_wp2_with fail
        refine (AJ.out _).mono ?_
        rintro e w6 ⟨rfl, hk⟩
        have K6 := hid_of (K5.out.trans hk)
        clear hk
        go_wp2_with fail
        refine (QS.out _).mono ?_
        rintro e w7 ⟨rfl, hk⟩
        have K7 := hid_of (K6.out.trans hk)
        clear hk
        go_wp2_with fail
        refine (QC.out _).mono ?_
        rintro e w8 ⟨rfl, hk⟩
        have K8 := hid_of (K7.out.trans hk)
        clear hk
        go_wp2_with fail
        refine (AN.out _).mono ?_
        rintro e w9 ⟨rfl, hk⟩
        have K9 := hid_of (K8.out.trans hk)
        clear hk
        go_wp2_with fail
        refine (QD.out _).mono ?_
        rintro e w10 ⟨rfl, rfl⟩
        have K10 := K9
        go_wp2_with fail
        refine (AD.out _).mono ?_
        rintro e w11 ⟨rfl, rfl⟩
        have K11 := K10
        go_wp2_with fail
        refine (QU.out _).mono ?_
        rintro e w12 ⟨rfl, hk⟩
        have K12 := hid_of (K11.out.trans hk)
        clear hk
        go_wp2
        go_ret
        exact ⟨by first | rfl | (refine congrArg Ending.returned ?_; simp), K12.out⟩
      · clear r1
        generalize joinP R = p at *
        generalize joinP I = pi at *
        go_enter Try.func7, Try.ntmps7
        go_wp2_with fail
        refine (HK.out _).mono ?_
        rintro e w1 ⟨rfl, hk⟩
        have K1 := hid_of (hk)
        clear hk
        go_wp2_with fail
        refine (A1.out _).mono ?_
        rintro e w2 ⟨rfl, hk⟩
        have K2 := hid_of (K1.out.trans hk)
        clear hk
        go_wp2_with fail
        refine (A2.out _).mono ?_
        rintro e w3 ⟨rfl, hk⟩
        have K3 := hid_of (K2.out.trans hk)
        clear hk
        go_wp2_with fail
        refine (A3.out _).mono ?_
        rintro e w4 ⟨rfl, hk⟩
        have K4 := hid_of (K3.out.trans hk)
        clear hk
        go_wp2_with fail
        refine (A4.out _).mono ?_
        rintro e w5 ⟨rfl, hk⟩
        have K5 := hid_of (K4.out.trans hk)
        clear hk
        go_wp2_with fail
        refine (AJ.out _).mono ?_
        rintro e w6 ⟨rfl, hk⟩
        have K6 := hid_of (K5.out.trans hk)
        clear hk
        go_wp2_with fail
        refine (QS.out _).mono ?_
        rintro e w7 ⟨rfl, hk⟩
        have K7 := hid_of (K6.out.trans hk)
        clear hk
        go_wp2_with fail
        refine (QC.out _).mono ?_
        rintro e w8 ⟨rfl, hk⟩
        have K8 := hid_of (K7.out.trans hk)
        clear hk
        go_wp2_with fail
        refine (AN.out _).mono ?_
        rintro e w9 ⟨rfl, hk⟩
        have K9 := hid_of (K8.out.trans hk)
        clear hk
        go_wp2_with fail
        refine (QD.out _).mono ?_
        rintro e w10 ⟨rfl, rfl⟩
        have K10 := K9
        go_wp2_with fail
        refine (AD.out _).mono ?_
        rintro e w11 ⟨rfl, rfl⟩
        have K11 := K10
        go_wp2_with fail
        refine (QU.out _).mono ?_
        rintro e w12 ⟨rfl, hk⟩
        have K12 := hid_of (K11.out.trans hk)
        clear hk
        go_wp2_with fail
        refine (TS.out _).mono ?_
        rintro e w13 ⟨rfl, hk⟩
        have K13 := hid_of (K12.out.trans hk)
        clear hk
        go_wp2_with fail
        refine (TJ.out _).mono ?_
        rintro e w14 ⟨rfl, hk⟩
        have K14 := hid_of (K13.out.trans hk)
        clear hk
        go_wp2
        go_ret
        exact ⟨by first | rfl | (refine congrArg Ending.returned ?_; simp), K14.out⟩
end Go.Proofs.Ythloacakomahaaa

/-
  PathPlain: the walk.
-/
import Derived.Test.YthloacakomahaabMfull
import Derived.Test.YthloacakomahaabCrow
import Derived.Test.YthloacakomahaabLists
namespace Go.Proofs.Ythloacakomahaab
open Go.RowKit
set_option linter.unusedVariables false
set_option linter.unusedSimpArgs false

theorem cell_kept {w W : World} (h : Cell w) (k : Kept (fun _ => False) w W) : Cell W := cell_below h (k.below (B := w.heap.size) (Nat.le_refl _) (fun _ h => h.elim))

theorem app2 (a : List UInt8) : (⟨a.toArray⟩ : ByteArray) ++ ⟨#[47]⟩ ++ ⟨#[42]⟩ = ⟨(a ++ [47, 42]).toArray⟩ := by
  apply ByteArray.ext
  simp [ByteArray.data_append]
theorem app3 (a : List UInt8) : (⟨a.toArray⟩ : ByteArray) ++ ⟨#[47, 42]⟩ = ⟨(a ++ [47, 42]).toArray⟩ := by
  apply ByteArray.ext
  simp [ByteArray.data_append]

set_option maxRecDepth 100000 in
set_option maxHeartbeats 2000000 in
theorem plain_walk (HR : HighRunes) (s t : ByteArray) (hs : s.size ≤ 9223372036854775807) (ht : t.size ≤ 9223372036854775807) (w : World) (hc : Cell w) :
    Calls Try.prog 3 #[.string s, .string t] w fun e w' => e = .returned (.bool true) ∧ Kept (fun _ => False) w w' := by
  have HK := hid_of known_any
  have HC := hid_of (clean_fully HR t)
  obtain ⟨⟨q, e0⟩, hcd⟩ : ∃ c, cleanOf t.data.toList = c := ⟨_, rfl⟩
  rw [hcd] at HC
  dsimp only at HC
  by_cases he : e0 = 0
  case neg =>
    have he' : (e0 == 0) = false := by simpa using he
    go_enter Try.func3, Try.ntmps3
    go_wp2_with fail
    refine (HK.out _).mono ?_
    rintro e w1 ⟨rfl, hk⟩
    have K1 := hid_of hk
    clear hk HK
    go_wp2_with fail
    refine (HC.out _).mono ?_
    rintro e w2 ⟨rfl, hk⟩
    have K2 := hid_of (K1.out.trans hk)
    clear hk HC
    go_wp2
    go_ret
    exact ⟨rfl, K2.out⟩
  subst he
  obtain ⟨f1, f2, f3, f4, f5, f6⟩ := plain_facts _ _ hcd
  have HM : Hid (∀ W, Cell W → ∀ x : List UInt8, Calls Try.prog 7 #[.string ⟨x.toArray⟩, .string ⟨q.toArray⟩] W fun e w' => e = .returned (.tuple #[.bool (matchOf x q).1, .int .i64 (matchOf x q).2]) ∧ Kept (fun _ => False) W w') := fun W hW x => match_fully HR hW ⟨x.toArray⟩ ⟨q.toArray⟩
  have HMs : Hid (∀ W, Cell W → Calls Try.prog 7 #[.string s, .string ⟨q.toArray⟩] W fun e w' => e = .returned (.tuple #[.bool (matchOf s.data.toList q).1, .int .i64 (matchOf s.data.toList q).2]) ∧ Kept (fun _ => False) W w') := fun W hW => match_fully HR hW s ⟨q.toArray⟩
  have HL : Hid (∀ W, Calls Try.prog 8 #[.string ⟨q.toArray⟩] W fun e w' => ∃ v, e = .returned (.tuple #[v, .bool true]) ∧ w'.ownsRow W.heap.size 9 1 v (partsOf q).length (texts (partsOf q)) ∧ Kept (fun _ => False) W w') := fun W => lists_any ⟨q.toArray⟩ (show q.length ≤ _ by omega) W
  have HS := hid_of (special_any s hs)
  have H1 : Hid (∀ W, Cell W → Calls Try.prog 7 #[.string ⟨#[42, 42]⟩, .string ⟨q.toArray⟩] W fun e w' => e = .returned (.tuple #[.bool true, .int .i64 0]) ∧ Kept (fun _ => False) W w') := fun W hW => by
    have := HM.out W hW [42, 42]
    rw [f3] at this
    exact this
  obtain ⟨n, hn⟩ : ∃ n, (partsOf q).length = n := ⟨_, rfl⟩
  rw [hn] at f1 f4 f5 HL
  have H2 : Hid (∀ W, Cell W → Calls Try.prog 7 #[.string ⟨(starsOf n).toArray⟩, .string ⟨q.toArray⟩] W fun e w' => e = .returned (.tuple #[.bool true, .int .i64 0]) ∧ Kept (fun _ => False) W w') := fun W hW => by
    have := HM.out W hW (starsOf n)
    rw [f4] at this
    exact this
  have F5 := hid_of f5
  have F6 := hid_of (f6 s.data.toList)
  have HCW := hid_of hc
  clear f2 f3 f4 f5 f6 hcd hn hc
  go_enter Try.func3, Try.ntmps3
  go_wp2_with fail
  refine (HK.out _).mono ?_
  rintro e w1 ⟨rfl, hk⟩
  have K1 := hid_of hk
  clear hk HK
  go_wp2_with fail
  refine (HC.out _).mono ?_
  rintro e w2 ⟨rfl, hk⟩
  have K2 := hid_of (K1.out.trans hk)
  clear hk HC K1
  go_wp2_with fail
  refine (H1.out _ (cell_kept HCW.out K2.out)).mono ?_
  rintro e w3 ⟨rfl, hk⟩
  have K3 := hid_of (K2.out.trans hk)
  clear hk H1 K2
  go_wp2_with fail
  refine (HL.out _).mono ?_
  rintro e w4 ⟨v, rfl, ho, hk⟩
  have K4 := hid_of (K3.out.trans hk)
  obtain ⟨a1, c1, rfl, hz1, hz2, hz3⟩ := own_slice ho
  clear hk HL K3 hz1 hz2 hz3 ho
  go_wp2
  go_loopw [9, 12] (fun st i wr => ∃ k : Nat, k ≤ n ∧ st = .string ⟨(starsOf k).toArray⟩ ∧ i = .int .i64 k ∧ wr = w4) (fun _ i _ => n - (intOf i).toNat)
  case atStart => exact ⟨0, by omega, rfl, rfl, rfl⟩
  case round =>
    obtain ⟨k, hk, rfl, rfl, rfl⟩ := hrel
    have hlen : (starsOf k).length ≤ 64 := by
      have := stars_len k
      omega
    by_cases h1 : k < n
    · by_cases h0 : k = 0
      · subst h0
        go_wp2
        exact ⟨⟨1, h1, rfl, rfl, trivial⟩, by simp [intOf]; omega⟩
      have hb0 : (0 : Int) < (k : Int) := by omega
      go_wp2
      refine ⟨⟨k + 1, h1, ?_, rfl, trivial⟩, by simp [intOf]; omega⟩
      rw [app2, stars_more, if_neg h0]
    obtain rfl : k = n := by omega
    go_wp2_with fail
    refine (H2.out _ (cell_kept HCW.out K4.out)).mono ?_
    rintro e w5 ⟨rfl, hk5⟩
    have K5 := hid_of (K4.out.trans hk5)
    clear hk5 H2 K4
    go_wp2_with fail
    have H3 : Hid (∀ W, Cell W → Calls Try.prog 7 #[.string (⟨(starsOf k).toArray⟩ ++ ⟨#[47, 42]⟩), .string ⟨q.toArray⟩] W fun e w' => e = .returned (.tuple #[.bool (matchOf (starsOf k ++ [47, 42]) q).1, .int .i64 (matchOf (starsOf k ++ [47, 42]) q).2]) ∧ Kept (fun _ => False) W w') := fun W hW => by
      rw [app3]
      exact HM.out W hW _
    obtain ⟨⟨m1, m2⟩, hm⟩ : ∃ c, matchOf (starsOf k ++ [47, 42]) q = c := ⟨_, rfl⟩
    obtain ⟨⟨i1, j1⟩, hij⟩ : ∃ c, matchOf s.data.toList q = c := ⟨_, rfl⟩
    obtain ⟨sp, hsp⟩ : ∃ b, anySp s.data.toList = b := ⟨_, rfl⟩
    rw [hm] at H3 F5
    rw [hij] at HMs F6
    rw [hsp] at HS F6
    dsimp only at H3 HMs F6
    have HE : Hid (sp = false → j1 = 0 → i1 = (s.data.toList == q)) := F6.out
    clear hm hij hsp F6 HM
    refine (H3.out _ (cell_kept HCW.out K5.out)).mono ?_
    rintro e w6 ⟨rfl, hk6⟩
    have K6 := hid_of (K5.out.trans hk6)
    clear hk6 H3 K5
    by_cases hq : q = []
    · subst hq
      clear F5
      go_wp2_with fail
      refine (HMs.out _ (cell_kept HCW.out K6.out)).mono ?_
      rintro e w7 ⟨rfl, hk7⟩
      have K7 := hid_of (K6.out.trans hk7)
      clear hk7 HMs K6
      go_wp2_with fail
      refine (HS.out _).mono ?_
      rintro e w8 ⟨rfl, rfl⟩
      clear HS
      cases sp with
      | true =>
        go_wp2
        go_ret
        exact ⟨rfl, K7.out⟩
      | false =>
        by_cases hj : j1 = 0
        · subst hj
          have hi : i1 = (s.data.toList == []) := HE.out rfl rfl
          clear HE
          go_wp2
          go_ret
          exact ⟨by show Ending.returned (.bool (s.data.isEmpty == s.toList.isEmpty)) = _; rw [ByteArray.toList_eq]; simp, K7.out⟩
        · have hj' : (j1 == 0) = false := by simpa using hj
          clear HE
          go_wp2
          go_ret
          exact ⟨rfl, K7.out⟩
    · have h8 := F5.out hq
      cases h8
      have hq' : (q == []) = false := by simpa using hq
      clear F5
      go_wp2_with fail
      refine (HMs.out _ (cell_kept HCW.out K6.out)).mono ?_
      rintro e w7 ⟨rfl, hk7⟩
      have K7 := hid_of (K6.out.trans hk7)
      clear hk7 HMs K6
      go_wp2_with fail
      refine (HS.out _).mono ?_
      rintro e w8 ⟨rfl, rfl⟩
      clear HS
      cases sp with
      | true =>
        go_wp2
        go_ret
        exact ⟨rfl, K7.out⟩
      | false =>
        by_cases hj : j1 = 0
        · subst hj
          have hi : i1 = (s.data.toList == q) := HE.out rfl rfl
          clear HE
          go_wp2
          go_ret
          exact ⟨by show Ending.returned (.bool ((s.data.toList == q) == (s.toList == q))) = _; rw [ByteArray.toList_eq]; simp, K7.out⟩
        · have hj' : (j1 == 0) = false := by simpa using hj
          clear HE
          go_wp2
          go_ret
          exact ⟨rfl, K7.out⟩
end Go.Proofs.Ythloacakomahaab

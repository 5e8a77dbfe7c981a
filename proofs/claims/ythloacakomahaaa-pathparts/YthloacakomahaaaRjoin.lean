/-
  The reference's Join and Split by contract.
-/
import Derived.Test.YthloacakomahaaaJoin
namespace Go.Proofs.Ythloacakomahaaa
open Go.RowKit
set_option linter.unusedVariables false
set_option linter.unusedSimpArgs false

theorem risclean_full (s : ByteArray) (hs : s.size ≤ 16777216) (w : World) :
    Calls Try.prog 15 #[.string s] w fun e w' => e = .returned (.bool (isClean s.data.toList)) ∧ Kept (fun _ => False) w w' := by
  have := risclean_any s hs w
  rwa [← isClean_iff] at this

theorem clean_len {l : List UInt8} (h : isClean l = true) : (partsOf l).length ≤ 32 ∧ ∀ x ∈ partsOf l, x.length ≤ 64 := by
  rw [isClean_iff, Bool.and_eq_true, decide_eq_true_eq, List.all_eq_true] at h
  exact ⟨h.2, fun x hx => (name_ok (h.1 x hx)).2.1⟩

set_option maxRecDepth 100000 in
set_option maxHeartbeats 1000000 in
theorem rjoin_call (s t : ByteArray) (hs : s.size ≤ 16777216) (ht : t.size ≤ 9223372036854775807) (w : World) :
    Calls Try.prog 19 #[.string s, .string t] w fun e w' => e = .returned (.tuple #[.string ⟨(joinOf s.data.toList t.data.toList).1.toArray⟩, .int .i64 (joinOf s.data.toList t.data.toList).2]) ∧ Kept (fun _ => False) w w' := by
  have HI := hid_of (risclean_full s hs)
  have HN := hid_of (rname_full t ht)
  have HP := hid_of (rparts_any s (by omega))
  obtain ⟨c, hcd⟩ : ∃ c, c = joinOf s.data.toList t.data.toList := ⟨_, rfl⟩
  rw [← hcd]
  cases hcl : isClean s.data.toList with
  | false =>
    rw [hcl] at HI
    rw [joinOf, if_pos (.inl hcl)] at hcd
    have HE := hid_of hcd
    clear hcd HN HP
    go_enter Try.func19, Try.ntmps19
    go_wp2_with fail
    refine (HI.out _).mono ?_
    rintro e w1 ⟨rfl, hk⟩
    have K1 := hid_of hk
    clear hk HI
    go_wp2
    exact bodyPost_ret (v := .tuple #[.string ⟨#[]⟩, .int .i64 31]) (by simp [results, Try.results19, go_sem]) rfl ⟨by rw [HE.out], K1.out⟩
  | true =>
    rw [hcl] at HI
    cases hnm : isName t.data.toList with
    | false =>
      rw [hnm] at HN
      rw [joinOf, if_pos (.inr hnm)] at hcd
      have HE := hid_of hcd
      clear hcd HP
      go_enter Try.func19, Try.ntmps19
      go_wp2_with fail
      refine (HI.out _).mono ?_
      rintro e w1 ⟨rfl, hk⟩
      have K1 := hid_of hk
      clear hk HI
      go_wp2_with fail
      refine (HN.out _).mono ?_
      rintro e w2 ⟨rfl, rfl⟩
      clear HN
      go_wp2
      exact bodyPost_ret (v := .tuple #[.string ⟨#[]⟩, .int .i64 31]) (by simp [results, Try.results19, go_sem]) rfl ⟨by rw [HE.out], K1.out⟩
    | true =>
      rw [hnm] at HN
      obtain ⟨hp1, hp2⟩ := clean_len hcl
      have hn1 := (name_ok hnm).2.1
      have hj := join_more (partsOf s.data.toList) t.data.toList
      rw [join_parts] at hj
      have hz : partsOf s.data.toList = [] ↔ s.data.toList = [] := by
        constructor
        · intro h
          have := join_parts s.data.toList
          rw [h] at this
          exact this.symm
        · intro h
          rw [h]
          rfl
      rw [joinOf, if_neg (by rw [hcl, hnm]; simp), depth_parts] at hcd
      simp only [hz] at hj
      rw [← hj] at hcd
      clear hj hz
      obtain ⟨x, hx⟩ : ∃ x, x = t.data.toList := ⟨_, rfl⟩
      have htx : t = ⟨x.toArray⟩ := bytes_eq hx.symm
      rw [← hx] at hcd hn1
      clear hx
      subst htx
      generalize partsOf s.data.toList = l at *
      by_cases h32 : (l.length : Int) = 32
      · rw [if_pos h32] at hcd
        have HE := hid_of hcd
        have h33 : l.length = 32 := by omega
        clear hcd h32
        go_enter Try.func19, Try.ntmps19
        go_wp2_with fail
        refine (HI.out _).mono ?_
        rintro e w1 ⟨rfl, hk⟩
        have K1 := hid_of hk
        clear hk HI
        go_wp2_with fail
        refine (HN.out _).mono ?_
        rintro e w2 ⟨rfl, rfl⟩
        clear HN
        go_wp2_with fail
        refine (HP.out _).mono ?_
        rintro e w3 ⟨v, rfl, ho, hk⟩
        have K3 := hid_of (K1.out.trans hk)
        obtain ⟨a, cap, rfl, _, _, _⟩ := own_slice ho
        clear hk HP ho
        go_wp2
        exact bodyPost_ret (v := .tuple #[.string ⟨#[]⟩, .int .i64 33]) (by simp [results, Try.results19, go_sem]) rfl ⟨by rw [HE.out], K3.out⟩
      · rw [if_neg h32] at hcd
        have HE := hid_of hcd
        have h33 : ¬ (32 : Int) ≤ (l.length : Int) := by omega
        clear hcd h32
        go_enter Try.func19, Try.ntmps19
        go_wp2_with fail
        refine (HI.out _).mono ?_
        rintro e w1 ⟨rfl, hk⟩
        have K1 := hid_of hk
        clear hk HI
        go_wp2_with fail
        refine (HN.out _).mono ?_
        rintro e w2 ⟨rfl, rfl⟩
        clear HN
        go_wp2_with fail
        refine (HP.out _).mono ?_
        rintro e w3 ⟨v, rfl, ho, hk⟩
        have K3 := hid_of (K1.out.trans hk)
        obtain ⟨v', w', hr, how, ⟨g, cap, rfl⟩, hk'⟩ := app_text _ _ _ _ _ 35 x ho hk.size (by omega)
        have K4 := hid_of (K3.out.step hk' (fun i hi (h : w2.heap.size ≤ i) => absurd hi (by have := K1.out.size; omega)))
        have HJ := hid_of (rpath_any (l ++ [x]) (.slice (some ⟨g, 0, none⟩) (l.length + 1) cap) _ w' (by rw [List.length_append]; exact how) (by simp; omega) (fun y hy => by
          rcases List.mem_append.1 hy with h | h
          · have := hp2 y h
            omega
          · rw [List.mem_singleton.1 h]
            omega))
        obtain ⟨a, cap0, rfl, _, _, _⟩ := own_slice ho
        clear hk HP ho hk' how
        generalize joinP (l ++ [x]) = jr at *
        go_wp2_with (refine wp_app rfl (.tmp 20) (.tmp 22) 35 35 ?_ _ _ rfl rfl (.slice (some ⟨g, 0, none⟩) (l.length + 1) cap) w' ?_ ?_; rfl; exact hr)
        refine HJ.out.mono ?_
        rintro e w5 ⟨rfl, rfl⟩
        clear HJ
        go_wp2
        exact bodyPost_ret (v := .tuple #[.string ⟨jr.toArray⟩, .int .i64 0]) (by simp [results, Try.results19, go_sem]) rfl ⟨by rw [HE.out], K4.out⟩
end Go.Proofs.Ythloacakomahaaa

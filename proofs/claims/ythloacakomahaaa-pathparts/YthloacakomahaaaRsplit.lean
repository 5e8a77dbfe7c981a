/-
  The reference's Split by contract.
-/
import Derived.Test.YthloacakomahaaaPsplit
import Derived.Test.YthloacakomahaaaRjoin
namespace Go.Proofs.Ythloacakomahaaa
open Go.RowKit
set_option linter.unusedVariables false
set_option linter.unusedSimpArgs false

set_option maxRecDepth 100000 in
set_option maxHeartbeats 1000000 in
theorem rsplit_any (s : ByteArray) (hs : s.size ≤ 16777216) (w : World) :
    Calls Try.prog 17 #[.string s] w fun e w' => e = .returned (.tuple #[.string ⟨(splitOf s.data.toList).1.toArray⟩, .string ⟨(splitOf s.data.toList).2.1.toArray⟩, .int .i64 (splitOf s.data.toList).2.2]) ∧ Kept (fun _ => False) w w' := by
  have HI := hid_of (risclean_full s hs)
  have HP := hid_of (rparts_any s (by omega))
  obtain ⟨c, hcd⟩ : ∃ c, c = splitOf s.data.toList := ⟨_, rfl⟩
  rw [← hcd]
  cases hcl : isClean s.data.toList with
  | false =>
    rw [hcl] at HI
    rw [splitOf, if_pos hcl] at hcd
    have HE := hid_of hcd
    clear hcd HP
    go_enter Try.func17, Try.ntmps17
    go_wp2_with fail
    refine (HI.out _).mono ?_
    rintro e w1 ⟨rfl, hk⟩
    have K1 := hid_of hk
    clear hk HI
    go_wp2
    exact bodyPost_ret (v := .tuple #[.string ⟨#[]⟩, .string ⟨#[]⟩, .int .i64 31]) (by simp [results, Try.results17, go_sem]) rfl ⟨by rw [HE.out], K1.out⟩
  | true =>
    rw [hcl] at HI
    rw [splitOf, hcl, if_neg (by simp)] at hcd
    obtain ⟨hp1, hp2⟩ := clean_len hcl
    by_cases h0 : s.data.toList = []
    · rw [if_pos h0] at hcd
      have HE := hid_of hcd
      rw [h0, show partsOf [] = [] from rfl] at HP
      clear hcd h0
      go_enter Try.func17, Try.ntmps17
      go_wp2_with fail
      refine (HI.out _).mono ?_
      rintro e w1 ⟨rfl, hk⟩
      have K1 := hid_of hk
      clear hk HI
      go_wp2_with fail
      refine (HP.out _).mono ?_
      rintro e w3 ⟨v, rfl, ho, hk⟩
      have K3 := hid_of (K1.out.trans hk)
      obtain ⟨a, cap, rfl, _, _, _⟩ := own_slice ho
      clear hk HP ho
      go_wp2
      exact bodyPost_ret (v := .tuple #[.string ⟨#[]⟩, .string ⟨#[]⟩, .int .i64 32]) (by simp [results, Try.results17, go_sem]) rfl ⟨by rw [HE.out], K3.out⟩
    · rw [if_neg h0] at hcd
      obtain ⟨init, x, e1, e2, e3⟩ := last_part _ h0
      rw [e1, List.dropLast_concat, List.getLastD_concat] at hcd
      rw [e1] at HP hp1 hp2
      have HE := hid_of hcd
      have hil : init.length ≤ 31 := by simpa using hp1
      have hlen : (init ++ [x]).length = init.length + 1 := by simp
      rw [hlen] at HP
      have HX : Hid ((init ++ [x])[init.length]? = some x) := by
        show _ = _
        simp
      clear hcd h0 e1 e2 e3 hlen hp1
      go_enter Try.func17, Try.ntmps17
      go_wp2_with fail
      refine (HI.out _).mono ?_
      rintro e w1 ⟨rfl, hk⟩
      have K1 := hid_of hk
      clear hk HI
      go_wp2_with fail
      refine (HP.out _).mono ?_
      rintro e w3 ⟨v, rfl, ho, hk⟩
      have K3 := hid_of (K1.out.trans hk)
      obtain ⟨g, cap, rfl, hcap, hless⟩ := own_less ho
      rw [List.dropLast_concat] at hless
      have hg1 := ho.cells (g := g) rfl init.length _ (texts_get _ _ _ HX.out)
      rw [Addr.add_mid, Nat.zero_add] at hg1
      have HJ : Hid (∀ q, Calls Try.prog 32 #[.slice (some ⟨g, 0, none⟩) init.length cap] (w3.drewN q) fun e w' => e = .returned (.string ⟨(joinP init).toArray⟩) ∧ w' = w3.drewN q) := fun q =>
        rpath_any init _ _ _ ((kept_drewN (Kept.refl (fun _ => False) w3) q).ownsRow hless (fun g _ h => h)) (by omega) (fun y hy => by
          have := hp2 y (List.mem_append_left _ hy)
          omega)
      clear hk HP ho hless HX hp2
      generalize joinP init = jr at *
      have hz0 : (0 : Int) ≤ (init.length : Int) := by omega
      have hz1 : (init.length : Int) ≤ (cap : Int) := by omega
      go_wp2
      go_quiet (first | (go_at_call 32; exact (HJ.out _).mono (fun _ _ h => ⟨h.1, _, h.2⟩)))
      go_wp2
      exact bodyPost_ret (v := .tuple #[.string ⟨jr.toArray⟩, .string ⟨x.toArray⟩, .int .i64 0]) (by simp [results, Try.results17, go_sem]) rfl ⟨by rw [HE.out], kept_drewN K3.out _⟩
end Go.Proofs.Ythloacakomahaaa

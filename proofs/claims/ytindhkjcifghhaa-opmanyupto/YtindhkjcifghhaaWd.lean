/-
  OpDecodes: the walk.
-/
import Derived.Test.YtindhkjcifghhaaRh
import Derived.Test.YtindhkjcifghhaaLnd
import Derived.Test.YtindhkjcifghhaaPe
namespace Go.Proofs.Ytindhkjcifghhaa
open Go.RowKit
set_option linter.unusedVariables false
set_option linter.unusedSimpArgs false
set_option maxRecDepth 100000

/-- What Decode tells: its error, the instructions. -/
def decE (xs : List Int) : Int := match decD xs with
  | .error f => f
  | .ok _ => 0
def decL (xs : List Int) : List IN := match decD xs with
  | .error _ => []
  | .ok ys => ys
theorem allD_len : ∀ (n : Nat) {xs : List Int} {ys : List IN}, allD n xs = .ok ys → ys.length ≤ n
  | 0, xs, ys, h => by
    unfold allD at h
    split at h
    · cases h; simp
    · cases h
  | n + 1, xs, ys, h => by
    rw [allD_succ] at h
    split at h
    · cases h; simp
    · cases h1 : oneDI xs with
      | error e => rw [h1] at h; cases h
      | ok p =>
        obtain ⟨y, r⟩ := p
        rw [h1] at h
        dsimp only at h
        cases h2 : allD n r with
        | error e => rw [h2] at h; cases h
        | ok zs =>
          rw [h2] at h
          cases h
          have := allD_len n h2
          simp only [List.length_cons]
          omega
theorem decD_len {xs : List Int} {ys : List IN} (h : decD xs = .ok ys) : ys.length ≤ 4096 := by
  unfold decD at h
  split at h
  · cases h
  · exact allD_len 4096 h
theorem decL_len (xs : List Int) : (decL xs).length ≤ 4096 := by
  unfold decL
  cases h : decD xs with
  | error f => simp
  | ok ys => exact decD_len h
theorem DecR.out {xs : List Int} {w w' : World} {e : Ending} (h : DecR xs w e w') : ∃ v', e = .returned (.tuple #[v', .int .i64 (decE xs)]) ∧ RowI w' v' (decL xs) ∧ (∀ q, v'.ownBlock = some q → w.heap.size ≤ q) ∧ (∀ y ∈ decL xs, y.Ok) ∧ Kept (fun _ => False) w w' := by
  obtain ⟨hk, h⟩ := h
  unfold decE decL
  cases hd : decD xs with
  | error f =>
    rw [hd] at h
    exact ⟨_, h, .inl ⟨rfl, none, 0, rfl⟩, fun q hq => by simp [Value.ownBlock] at hq, fun y hy => by simp at hy, hk⟩
  | ok ys =>
    rw [hd] at h
    obtain ⟨⟨v', h1, h2⟩, h3⟩ := h
    exact ⟨v', h1, rowI_own h2, fun q hq => (h2.lt q hq).1, h3, hk⟩

set_option maxHeartbeats 8000000 in
theorem decodes_walk (ao : Option Addr) (c : Nat) (xs : List Int) (w : World) (hv : IsB w (.slice ao xs.length c) xs) (hb : BytesOk xs) (hvl : ∀ g, (Value.slice ao xs.length c).ownBlock = some g → g < w.heap.size) :
    Calls Try.prog 5 #[.slice ao xs.length c] w fun e w' => e = .returned (.bool true) ∧ Kept (fun _ => False) w w' := by
  obtain ⟨n, hN⟩ : ∃ n, n = xs.length := ⟨_, rfl⟩
  have HN := hid_of hN
  have HV := hid_of hv
  have HB := hid_of hb
  have HVL := hid_of hvl
  have hn := hb.2
  clear hv hb hvl
  rw [← hN] at HV HVL hn ⊢
  clear hN
  go_enter Try.func5, Try.ntmps5
  go_wp2_with fail
  refine (known_any w).mono ?_
  rintro e w1 ⟨rfl, hk1⟩
  have HK1 := hid_of hk1
  have hs1 : w.heap.size ≤ w1.heap.size := hk1.size
  have hV1 := HV.out.kept hk1 (fun _ _ f => f)
  have hLE := lend2_any (.slice ao n c) xs w1 hV1 (by rw [← HN.out]; omega)
  rw [← HN.out] at hLE
  have HLE := hid_of hLE
  clear hk1 hV1 hLE
  go_wp2_with fail
  refine HLE.out.mono ?_
  rintro e w2 ⟨rfl, hl2, hk2⟩
  have HK2 := hid_of (HK1.out.trans hk2)
  have HL2 := hid_of hl2
  have hg2 : w1.heap.size < w2.heap.size := by obtain ⟨cur, h0, _⟩ := hl2; exact (Array.getElem?_eq_some_iff.1 h0).1
  have hIR : IsR w2 w1.heap.size (.slice (some ⟨w1.heap.size, 0, none⟩) xs.length (n + 67)) xs := .inr ⟨0, n + 67, rfl, by rw [← HN.out]; omega, by omega, by unfold maxLen; omega, fun i hi => by rw [Nat.zero_add]; exact hl2.at hi⟩
  have hDC := decode_x w1.heap.size (some ⟨w1.heap.size, 0, none⟩) (n + 67) xs w2 hIR hg2 HB.out
  rw [← HN.out] at hDC
  have HDC := hid_of hDC
  generalize hg : w1.heap.size = g at *
  clear hk2 hl2 hIR hDC HLE HK1 hg
  go_wp2_with fail
  refine HDC.out.mono ?_
  rintro e w3 he
  obtain ⟨v3, rfl, hr3, hn3, -, hk3⟩ := he.out
  have HN3 := hid_of hn3
  have HK3 := hid_of (HK2.out.trans hk3)
  have HL3 := hid_of (HL2.out.kept hk3 (fun f => f))
  have hV3 := HV.out.kept (HK2.out.trans hk3) (fun _ _ f => f)
  have hs3 : w2.heap.size ≤ w3.heap.size := hk3.size
  have hDR := decode_ref ao c xs w3 (by rw [← HN.out]; exact hV3) HB.out (fun b hq => by have := HVL.out b (by rw [HN.out]; exact hq); omega)
  rw [← HN.out] at hDR
  have HDR := hid_of hDR
  have HR3 := hid_of hr3
  obtain ⟨o3, c3, hv3⟩ := hr3.shape
  obtain ⟨m3, hm3⟩ : ∃ m, m = (decL xs).length := ⟨_, rfl⟩
  rw [← hm3] at hv3
  have HM3 := hid_of hm3
  subst hv3
  obtain ⟨ee, hee⟩ : ∃ ee, ee = decE xs := ⟨_, rfl⟩
  rw [← hee]
  clear hk3 hr3 hn3 hV3 hDR HDC HK2 HL2 he hm3
  go_wp2_with fail
  refine HDR.out.mono ?_
  rintro e w4 he
  obtain ⟨v4, rfl, hr4, hn4, -, hk4⟩ := he.out
  rw [← hee]
  have HN4 := hid_of hn4
  have HK4 := hid_of (HK3.out.trans hk4)
  have HR34 := hid_of (HR3.out.kept hk4 (fun _ _ f => f))
  have hV4 := HV.out.kept (HK3.out.trans hk4) (fun _ _ f => f)
  have hHE := held2_any g (.slice ao n c) xs w4 (HL3.out.kept hk4 (fun f => f)) hV4 (by rw [← HN.out]; omega)
  rw [← HN.out] at hHE
  have HHE := hid_of hHE
  have HR4 := hid_of hr4
  obtain ⟨o4, c4, hv4⟩ := hr4.shape
  rw [← HM3.out] at hv4
  subst hv4
  have hs4 : w3.heap.size ≤ w4.heap.size := hk4.size
  clear hk4 hr4 hn4 hV4 hHE HDR HK3 HL3 HR3 he hee
  go_wp2_with fail
  refine HHE.out.mono ?_
  rintro e w5 ⟨rfl, hk5⟩
  have HK5 := hid_of (HK4.out.step hk5 (fun i hi e => by omega))
  have hSM := same_any _ _ (decL xs) (decL xs) w5 (HR34.out.kept hk5 (fun q hq e => by have := HN3.out q hq; omega)) (HR4.out.kept hk5 (fun q hq e => by have := HN4.out q hq; omega)) (by have := decL_len xs; omega) (by have := decL_len xs; omega)
  rw [sameI_refl] at hSM
  have HSM := hid_of hSM
  clear hk5 HHE HR34 HR4 HK4 hSM
  go_wp2_with fail
  refine HSM.out.mono ?_
  rintro e w6 ⟨rfl, d6, rfl⟩
  have HK6 := hid_of (kept_drewN HK5.out d6)
  go_wp2
  go_ret
  exact ⟨rfl, HK6.out⟩
end Go.Proofs.Ytindhkjcifghhaa

/-
  OpEncodes: the walk.
-/
import Derived.Test.YtindhkjcifghhaaRg
import Derived.Test.YtindhkjcifghhaaLi
import Derived.Test.YtindhkjcifghhaaPe
namespace Go.Proofs.Ytindhkjcifghhaa
open Go.RowKit
set_option linter.unusedVariables false
set_option linter.unusedSimpArgs false
set_option maxRecDepth 100000

/-- What Encode answers, as two values. -/
theorem EncR.out {ys : List IN} {w w' : World} {e : Ending} (h : EncR ys w e w') : ∃ v', e = .returned (.tuple #[v', .int .i64 (encE ys)]) ∧ IsB w' v' (if encE ys = 0 then encB ys else []) ∧ (∀ q, v'.ownBlock = some q → w.heap.size ≤ q) ∧ Kept (fun _ => False) w w' := by
  obtain ⟨hk, h⟩ := h
  by_cases h0 : encE ys = 0
  · rw [if_pos h0] at h ⊢
    obtain ⟨v', rfl, ho⟩ := h
    exact ⟨v', by rw [h0], isB_own ho, fun q hq => (ho.lt q hq).1, hk⟩
  · rw [if_neg h0] at h ⊢
    exact ⟨_, h, isB_nil w', fun q hq => by simp [Value.ownBlock] at hq, hk⟩

set_option maxHeartbeats 8000000 in
theorem encodes_walk (ao : Option Addr) (c : Nat) (ys : List IN) (w : World) (hv : RowI w (.slice ao ys.length c) ys) (hy : ∀ y ∈ ys, y.Ok) (hn : (ys.length + 67) * 16 ≤ 140737488355328) :
    Calls Try.prog 4 #[.slice ao ys.length c] w fun e w' => e = .returned (.bool true) ∧ Kept (fun _ => False) w w' := by
  obtain ⟨n, hN⟩ : ∃ n, n = ys.length := ⟨_, rfl⟩
  have HN := hid_of hN
  have HV := hid_of hv
  have HY := hid_of hy
  have HNN := hid_of hn
  clear hv hy hn
  rw [← hN] at HV ⊢
  clear hN
  go_enter Try.func4, Try.ntmps4
  go_wp2_with fail
  refine (known_any w).mono ?_
  rintro e w1 ⟨rfl, hk1⟩
  have HK1 := hid_of hk1
  have hV1 := HV.out.kept hk1 (fun _ _ f => f)
  rw [HN.out] at hV1
  have hLE := lendI_any ao c ys w1 hV1 HNN.out
  rw [← HN.out] at hLE
  have HLE := hid_of hLE
  clear hk1 hV1 hLE
  go_wp2_with fail
  refine HLE.out.mono ?_
  rintro e w2 ⟨rfl, hl2, hk2⟩
  have hs1 : w.heap.size ≤ w1.heap.size := HK1.out.size
  have HK2 := hid_of (HK1.out.trans hk2)
  have HL2 := hid_of hl2
  have hrow2 := hl2.row (c := n + 67)
  have hg2 : w1.heap.size < w2.heap.size := block_lt_of_cell (w := w2) (a := ⟨w1.heap.size, 0, none⟩) (Option.isSome_iff_exists.1 (by have := (hl2.there 0 (by omega)).1; simpa using this)).choose_spec
  have hEN := encode_any _ ys w2 hrow2 HY.out (by have := HNN.out; omega)
  rw [← HN.out] at hEN
  have HEN := hid_of hEN
  generalize hg : w1.heap.size = g at *
  clear hk2 hl2 hrow2 hEN HLE HK1 hg
  go_wp2_with fail
  refine HEN.out.mono ?_
  rintro e w3 he
  obtain ⟨v3, rfl, hb3, hn3, hk3⟩ := he.out
  have HN3 := hid_of hn3
  clear hn3
  have HK3 := hid_of (HK2.out.trans hk3)
  have HL3 := hid_of (HL2.out.kept hk3 (fun f => f))
  have hV3 := HV.out.kept (HK2.out.trans hk3) (fun _ _ f => f)
  rw [HN.out] at hV3
  have hER := encode_ref _ ys w3 hV3 HY.out (by have := HNN.out; omega)
  rw [← HN.out] at hER
  have HER := hid_of hER
  have HB3 := hid_of hb3
  obtain ⟨o3, c3, hv3⟩ := hb3.shape
  obtain ⟨m3, hm3⟩ : ∃ m, m = (if encE ys = 0 then encB ys else []).length := ⟨_, rfl⟩
  rw [← hm3] at hv3
  have HM3 := hid_of hm3
  subst hv3
  have hs3 : w2.heap.size ≤ w3.heap.size := hk3.size
  clear hk3 hb3 hV3 hER HEN HK2 HL2 he hm3
  obtain ⟨ee, hee⟩ : ∃ ee, ee = encE ys := ⟨_, rfl⟩
  have HEE := hid_of hee
  rw [← hee]
  go_wp2_with fail
  refine HER.out.mono ?_
  rintro e w4 he
  obtain ⟨v4, rfl, hb4, hn4, hk4⟩ := he.out
  have HN4 := hid_of hn4
  clear hn4
  rw [← hee]
  have HK4 := hid_of (HK3.out.trans hk4)
  have HB34 := hid_of (HB3.out.kept hk4 (fun _ _ f => f))
  have hV4 := HV.out.kept (HK3.out.trans hk4) (fun _ _ f => f)
  rw [HN.out] at hV4
  have hHE := heldI_any g _ ys w4 (HL3.out.kept hk4 (fun f => f)) hV4 HNN.out
  rw [← HN.out] at hHE
  have HHE := hid_of hHE
  have HB4 := hid_of hb4
  obtain ⟨o4, c4, hv4⟩ := hb4.shape
  rw [← HM3.out] at hv4
  subst hv4
  have hs4 : w3.heap.size ≤ w4.heap.size := hk4.size
  clear hk4 hb4 hV4 hHE HER HK3 HL3 HB3 he hee
  go_wp2_with fail
  refine HHE.out.mono ?_
  rintro e w5 ⟨rfl, hk5⟩
  have HK5 := hid_of (HK4.out.step hk5 (fun i hi e => by omega))
  have hc3 := conv_str w5 _ _ (HB34.out.kept hk5 (fun q hq e => by have := HN3.out q hq; omega))
  have hc4 := conv_str w5 _ _ (HB4.out.kept hk5 (fun q hq e => by have := HN4.out q hq; omega))
  generalize str (if encE ys = 0 then encB ys else []) = ss at *
  have hss : (ss.toList == ss.toList) = true := by simp
  clear hk5 HHE HB34 HB4 HK4
  go_wp2
  go_ret
  exact ⟨rfl, HK5.out⟩
end Go.Proofs.Ytindhkjcifghhaa

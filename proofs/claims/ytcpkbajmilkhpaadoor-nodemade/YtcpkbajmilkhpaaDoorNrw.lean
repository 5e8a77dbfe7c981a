/-
  NodeReads: the walk.
-/
import Derived.Test.YtcpkbajmilkhpaaDoorNkn
import Derived.Test.YtcpkbajmilkhpaaDoorNrd
import Derived.Test.YtcpkbajmilkhpaaDoorLnd
namespace Go.Proofs.YtcpkbajmilkhpaaDoor
open Go.RowKit
set_option linter.unusedVariables false
set_option linter.unusedSimpArgs false
set_option maxRecDepth 100000

theorem entsD_facts {P : List Int → Bool} : ∀ (n : Nat) {ah xs : List Int} {ys : List EV} {rest : List Int}, BytesOk xs → entsD P n ah xs = .ok (ys, rest) → ys.length = n ∧ (∀ y ∈ ys, y.fr.length ≤ 32) ∧ BytesOk rest
  | 0, ah, xs, ys, rest, hb, h => by
    rw [show entsD P 0 ah xs = .ok ([], xs) from rfl] at h
    cases h
    exact ⟨rfl, by simp, hb⟩
  | n + 1, ah, xs, ys, rest, hb, h => by
    rw [entsD_succ] at h
    cases h1 : entD P ah xs with
    | error f => rw [h1] at h; cases h
    | ok p =>
      obtain ⟨y, r⟩ := p
      rw [h1] at h
      dsimp only at h
      obtain ⟨hb1, hy⟩ := entD_facts hb h1
      cases h2 : entsD P n y.nm r with
      | error f => rw [h2] at h; cases h
      | ok q =>
        obtain ⟨zs, r'⟩ := q
        rw [h2] at h
        cases h
        obtain ⟨a, b, c⟩ := entsD_facts n hb1 h2
        refine ⟨by simp [a], fun z hz => ?_, c⟩
        rcases List.mem_cons.1 hz with rfl | hz
        · exact hy
        · exact b z hz

theorem listD_facts {P : List Int → Bool} {xs : List Int} {ys : List EV} {rest : List Int} (hb : BytesOk xs) (h : listD P xs = .ok (ys, rest)) : ys.length ≤ 1024 ∧ ∀ y ∈ ys, y.fr.length ≤ 32 := by
  unfold listD at h
  cases h1 : numD xs with
  | error f => rw [h1] at h; cases h
  | ok p =>
    obtain ⟨t, r1⟩ := p
    rw [h1] at h
    dsimp only at h
    have hb1 := numD_rest hb h1
    split at h
    · cases h2 : mostD 1024 r1 with
      | error f => rw [h2] at h; cases h
      | ok q =>
        obtain ⟨n, r2⟩ := q
        rw [h2] at h
        dsimp only at h
        unfold mostD at h2
        cases h3 : numD r1 with
        | error f => rw [h3] at h2; cases h2
        | ok s =>
          obtain ⟨u, r3⟩ := s
          rw [h3] at h2
          dsimp only at h2
          have hb3 := numD_rest hb1 h3
          split at h2
          · cases h2
          · cases h2
            obtain ⟨a, b, _⟩ := entsD_facts _ hb3 h
            exact ⟨by omega, b⟩
    · cases h

/-- What Decode answers: the number, the entries. -/
def decK (xs : List Int) : Int := if 1048576 < xs.length then 2 else match listD nameP xs with
  | .error f => f
  | .ok (_, rest) => if 0 < rest.length then 13 else 0
def decL (xs : List Int) : List EV := if 1048576 < xs.length then [] else match listD nameP xs with
  | .error _ => []
  | .ok (ys, rest) => if 0 < rest.length then [] else ys

theorem decL_facts {xs : List Int} (hb : BytesOk xs) : (decL xs).length ≤ 1024 ∧ ∀ y ∈ decL xs, y.fr.length ≤ 32 := by
  unfold decL
  split
  · exact ⟨by simp, by simp⟩
  · cases h : listD nameP xs with
    | error f => exact ⟨by simp, by simp⟩
    | ok q =>
      obtain ⟨ys, rest⟩ := q
      dsimp only
      split
      · exact ⟨by simp, by simp⟩
      · exact listD_facts hb h

theorem decR_out {xs : List Int} {w w' : World} {e : Ending} (hb : BytesOk xs) (h : DecR nameP xs w e w') :
    ∃ lv, e = .returned (.tuple #[lv, .int .i64 (decK xs)]) ∧ RowE w' lv (decL xs) ∧ Kept (fun _ => False) w w' ∧ (∀ g, lv.ownBlock = some g → w.heap.size ≤ g ∧ g < w'.heap.size) := by
  obtain ⟨hk, h⟩ := h
  unfold decK decL
  by_cases hl : 1048576 < xs.length
  · rw [if_pos hl] at h
    rw [if_pos hl, if_pos hl]
    exact ⟨_, h, .inl ⟨rfl, _, _, rfl⟩, hk, fun g hg => by cases hg⟩
  · rw [if_neg hl] at h
    rw [if_neg hl, if_neg hl]
    cases hd : listD nameP xs with
    | error f =>
      rw [hd] at h
      exact ⟨_, h, .inl ⟨rfl, _, _, rfl⟩, hk, fun g hg => by cases hg⟩
    | ok q =>
      obtain ⟨ys, rest⟩ := q
      rw [hd] at h
      dsimp only at h ⊢
      by_cases h0 : 0 < rest.length
      · rw [if_pos h0] at h
        rw [if_pos h0, if_pos h0]
        exact ⟨_, h, .inl ⟨rfl, _, _, rfl⟩, hk, fun g hg => by cases hg⟩
      · rw [if_neg h0] at h
        rw [if_neg h0, if_neg h0]
        obtain ⟨v', he, ho⟩ := h
        exact ⟨v', he, rowE_own ho (listD_facts hb hd).2, hk, ho.lt⟩

set_option maxHeartbeats 2000000 in
theorem reads_walk (ao : Option Addr) (c : Nat) (xs : List Int) (w : World) (hx : IsB w (.slice ao xs.length c) xs) (hcp : Capd (.slice ao xs.length c) xs.length) (hb : BytesOk xs) (hvl : ∀ g, (Value.slice ao xs.length c).ownBlock = some g → g < w.heap.size) :
    Calls Tryd.prog 4 #[.slice ao xs.length c] w fun e w' => e = .returned (.bool true) ∧ Kept (fun _ => False) w w' := by
  have hl := hb.2
  have HKN := hid_of (known_any w)
  obtain ⟨n, hn⟩ : ∃ n, n = xs.length := ⟨_, rfl⟩
  have HN := hid_of hn
  have HX := hid_of hx
  have HCP := hid_of hcp
  have HB := hid_of hb
  have HVL := hid_of hvl
  rw [← hn]
  rw [← hn] at hl
  clear hn hx hcp hb hvl
  go_enter Tryd.func4, Tryd.ntmps4
  go_wp2_with fail
  refine HKN.out.mono ?_
  rintro e w1 ⟨rfl, hk1⟩
  have hL := lend2_any (.slice ao xs.length c) xs w1 (HX.out.kept hk1 (fun _ _ f => f)) (by have := HB.out.2; omega)
  rw [← HN.out] at hL
  have HL := hid_of hL
  have HK1 := hid_of hk1
  have hw1 := hk1.size
  clear hk1 hL HKN
  go_wp2_with fail
  refine HL.out.mono ?_
  rintro e w2 ⟨rfl, hl2, hk2⟩
  have hs12 : w1.heap.size < w2.heap.size := by
    obtain ⟨cur, h0, _⟩ := hl2
    exact (Array.getElem?_eq_some_iff.1 h0).1
  have hD := decode_x nameP nameC w1.heap.size (some ⟨w1.heap.size, 0, none⟩) (xs.length + 67) xs w2 (.inr ⟨0, xs.length + 67, rfl, by omega, by omega, by unfold maxLen; have := HB.out.2; omega, fun i hi => by rw [Nat.zero_add]; exact hl2.at hi⟩) hs12 HB.out
  rw [← HN.out] at hD
  have HD := hid_of hD
  have HL2 := hid_of hl2
  have HK2 := hid_of (HK1.out.trans hk2)
  clear hD hl2 hk2 HL HK1
  go_wp2_with fail
  refine HD.out.mono ?_
  rintro e w3 hd3
  obtain ⟨lv, rfl, hr3, hk3, hlt3⟩ := decR_out HB.out hd3
  have hK3 := HK2.out.trans hk3
  have hR := decode_ref nameP nameRC nameP_nil ao c xs w3 (HX.out.kept hK3 (fun _ _ f => f)) HB.out HCP.out (fun g hg => Nat.lt_of_lt_of_le (HVL.out g hg) hK3.size)
  rw [← HN.out] at hR
  have HR := hid_of hR
  have HL3 := hid_of (HL2.out.kept hk3 (fun f => f))
  have HK3 := hid_of hK3
  have HR3 := hid_of hr3
  have hs23 := hk3.size
  clear hR hK3 hk3 hd3 HD HL2 HK2 hr3
  go_wp2_with fail
  refine HR.out.mono ?_
  rintro e w4 hd4
  obtain ⟨uv, rfl, hr4, hk4, hlt4⟩ := decR_out HB.out hd4
  have hK4 := HK3.out.trans hk4
  have hs34 := hk4.size
  have hH := held2_any w1.heap.size (.slice ao xs.length c) xs w4 (HL3.out.kept hk4 (fun f => f)) (HX.out.kept hK4 (fun _ _ f => f)) (by have := HB.out.2; omega)
  rw [← HN.out] at hH
  have HH := hid_of hH
  have HR34 := hid_of (HR3.out.kept hk4 (fun _ _ f => f))
  have HR4 := hid_of hr4
  have HK4 := hid_of hK4
  clear hH hK4 hk4 hd4 HR HL3 HK3 HR3 hr4
  generalize decK xs = dk at *
  go_wp2_with fail
  refine HH.out.mono ?_
  rintro e w5 ⟨rfl, hk5⟩
  have hf := decL_facts HB.out
  have HS := hid_of (same_any lv uv (decL xs) (decL xs) w5 (HR34.out.kept hk5 (fun g hg e => by have := (hlt3 g hg).1; omega)) (HR4.out.kept hk5 (fun g hg e => by have := (hlt4 g hg).1; omega)) hf.2 hf.2 (by omega))
  rw [sameL_refl] at HS
  have HK5 : Hid (Kept (fun _ => False) w w5) := HK4.out.step hk5 (fun i hi e => by omega)
  clear hk5 hf HH HK4 HR34 HR4
  go_wp2_with fail
  refine HS.out.mono ?_
  rintro e w6 ⟨rfl, hk6⟩
  have HK6 := hid_of (HK5.out.trans hk6)
  clear hk6 HS HK5
  go_wp2
  go_ret
  exact ⟨rfl, HK6.out⟩
end Go.Proofs.YtcpkbajmilkhpaaDoor

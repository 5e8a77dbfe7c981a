/-
  NodeReads: the walk.
-/
import Derived.Test.YtcpkbajmilkhpabGreatDoorNkn
import Derived.Test.YtcpkbajmilkhpabGreatDoorLnd
namespace Go.Proofs.YtcpkbajmilkhpabGreatDoor
open Go.RowKit
set_option linter.unusedVariables false
set_option linter.unusedSimpArgs false
set_option maxRecDepth 100000

theorem entsD_facts {P : List Int → Bool} : ∀ (n : Nat) {ah xs : List Int} {ys : List EV} {rest : List Int}, BytesOk xs → entsD P n ah xs = .ok (ys, rest) → ys.length = n ∧ (∀ y ∈ ys, y.fr.length ≤ 32) ∧ BytesOk rest
  | 0, ah, xs, ys, rest, hb, h => by
    rw [show entsD P 0 ah xs = .ok ([], xs) from rfl] at h
    cases h
    exact ⟨rfl, by simp, hb⟩
  | n + 1, ah, xs, ys, rest, hb, h => by
    rw [entsD_succ] at h
    cases h1 : entD P ah xs with
    | error f => rw [h1] at h; cases h
    | ok p =>
      obtain ⟨y, r⟩ := p
      rw [h1] at h
      dsimp only at h
      obtain ⟨hb1, hy⟩ := entD_facts hb h1
      cases h2 : entsD P n y.nm r with
      | error f => rw [h2] at h; cases h
      | ok q =>
        obtain ⟨zs, r'⟩ := q
        rw [h2] at h
        cases h
        obtain ⟨a, b, c⟩ := entsD_facts n hb1 h2
        refine ⟨by simp [a], fun z hz => ?_, c⟩
        rcases List.mem_cons.1 hz with rfl | hz
        · exact hy
        · exact b z hz

theorem listD_facts {P : List Int → Bool} {xs : List Int} {ys : List EV} {rest : List Int} (hb : BytesOk xs) (h : listD P xs = .ok (ys, rest)) : ys.length ≤ 1024 ∧ ∀ y ∈ ys, y.fr.length ≤ 32 := by
  unfold listD at h
  cases h1 : numD xs with
  | error f => rw [h1] at h; cases h
  | ok p =>
    obtain ⟨t, r1⟩ := p
    rw [h1] at h
    dsimp only at h
    have hb1 := numD_rest hb h1
    split at h
    · cases h2 : mostD 1024 r1 with
      | error f => rw [h2] at h; cases h
      | ok q =>
        obtain ⟨n, r2⟩ := q
        rw [h2] at h
        dsimp only at h
        unfold mostD at h2
        cases h3 : numD r1 with
        | error f => rw [h3] at h2; cases h2
        | ok s =>
          obtain ⟨u, r3⟩ := s
          rw [h3] at h2
          dsimp only at h2
          have hb3 := numD_rest hb1 h3
          split at h2
          · cases h2
          · cases h2
            obtain ⟨a, b, _⟩ := entsD_facts _ hb3 h
            exact ⟨by omega, b⟩
    · cases h

/-- What Decode answers: the number, the entries. -/
def decK (xs : List Int) : Int := if 1048576 < xs.length then 2 else match listD nameP xs with
  | .error f => f
  | .ok (_, rest) => if 0 < rest.length then 13 else 0
def decL (xs : List Int) : List EV := if 1048576 < xs.length then [] else match listD nameP xs with
  | .error _ => []
  | .ok (ys, rest) => if 0 < rest.length then [] else ys

theorem decL_facts {xs : List Int} (hb : BytesOk xs) : (decL xs).length ≤ 1024 ∧ ∀ y ∈ decL xs, y.fr.length ≤ 32 := by
  unfold decL
  split
  · exact ⟨by simp, by simp⟩
  · cases h : listD nameP xs with
    | error f => exact ⟨by simp, by simp⟩
    | ok q =>
      obtain ⟨ys, rest⟩ := q
      dsimp only
      split
      · exact ⟨by simp, by simp⟩
      · exact listD_facts hb h

theorem decR_out {xs : List Int} {w w' : World} {e : Ending} (hb : BytesOk xs) (h : DecR nameP xs w e w') :
    ∃ lv, e = .returned (.tuple #[lv, .int .i64 (decK xs)]) ∧ RowE w' lv (decL xs) ∧ Kept (fun _ => False) w w' ∧ (∀ g, lv.ownBlock = some g → w.heap.size ≤ g ∧ g < w'.heap.size) := by
  obtain ⟨hk, h⟩ := h
  unfold decK decL
  by_cases hl : 1048576 < xs.length
  · rw [if_pos hl] at h
    rw [if_pos hl, if_pos hl]
    exact ⟨_, h, .inl ⟨rfl, _, _, rfl⟩, hk, fun g hg => by cases hg⟩
  · rw [if_neg hl] at h
    rw [if_neg hl, if_neg hl]
    cases hd : listD nameP xs with
    | error f =>
      rw [hd] at h
      exact ⟨_, h, .inl ⟨rfl, _, _, rfl⟩, hk, fun g hg => by cases hg⟩
    | ok q =>
      obtain ⟨ys, rest⟩ := q
      rw [hd] at h
      dsimp only at h ⊢
      by_cases h0 : 0 < rest.length
      · rw [if_pos h0] at h
        rw [if_pos h0, if_pos h0]
        exact ⟨_, h, .inl ⟨rfl, _, _, rfl⟩, hk, fun g hg => by cases hg⟩
      · rw [if_neg h0] at h
        rw [if_neg h0, if_neg h0]
        obtain ⟨v', he, ho⟩ := h
        exact ⟨v', he, rowE_own ho (listD_facts hb hd).2, hk, ho.lt⟩

end Go.Proofs.YtcpkbajmilkhpabGreatDoor

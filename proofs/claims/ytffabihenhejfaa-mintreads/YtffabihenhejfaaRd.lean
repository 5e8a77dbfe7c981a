/-
  THE READER in memory: take, form, Num, .. where no fault is met.
-/
import Derived.Test.YtffabihenhejfaaOpen
import Derived.Defers
import Derived.Recover
namespace Go.Proofs.Ytffabihenhejfaa
open Go.RowKit
set_option linter.unusedVariables false

/-- A Reader: its three fields. -/
def Rd (w : World) (r : Nat) (v : Value) (live : Bool) (f : Int) : Prop := w.heap[r]? = some (.cells #[v, .bool live, .int .i64 f] 82 (0, 0))

theorem Rd.cells {w : World} {r : Nat} {v : Value} {live : Bool} {f : Int} (h : Rd w r v live f) :
    w.cell? ⟨r, 0, none⟩ = some v ∧ w.cell? ⟨r, 1, none⟩ = some (.bool live) ∧ w.cell? ⟨r, 2, none⟩ = some (.int .i64 f) ∧ w.frozen? ⟨r, 0, none⟩ = false ∧ w.frozen? ⟨r, 1, none⟩ = false ∧ w.frozen? ⟨r, 2, none⟩ = false ∧ r < w.heap.size :=
  ⟨by rw [cell_block _ _ _ _ _ _ h]; rfl, by rw [cell_block _ _ _ _ _ _ h]; rfl, by rw [cell_block _ _ _ _ _ _ h]; rfl, frozen_block _ _ _ _ _ h, frozen_block _ _ _ _ _ h, frozen_block _ _ _ _ _ h, (Array.getElem?_eq_some_iff.1 h).1⟩

theorem Rd.set0 {w : World} {r : Nat} {v : Value} {live : Bool} {f : Int} (h : Rd w r v live f) (v' : Value) : Rd (w.setCell ⟨r, 0, none⟩ v') r v' live f := by
  unfold Rd
  rw [set_block _ _ _ _ _ _ h]
  rfl

theorem Rd.kept {w w' : World} {r : Nat} {v : Value} {live : Bool} {f : Int} {S : Nat → Prop} (h : Rd w r v live f) (hk : Kept S w w') (hS : ¬ S r) : Rd w' r v live f :=
  (hk.block r (Array.getElem?_eq_some_iff.1 h).1 hS).trans h

/-- What a Reader has left: a slice into block g. -/
def IsR (w : World) (g : Nat) (v : Value) (xs : List Int) : Prop :=
  (xs = [] ∧ ∃ ao : Option Addr, (ao = none ∨ ∃ o, ao = some ⟨g, o, none⟩) ∧ v = .slice ao 0 0) ∨
  ∃ o c, v = .slice (some ⟨g, o, none⟩) xs.length c ∧ xs.length ≤ c ∧ 0 < c ∧ c ≤ maxLen ∧ ∀ i, i < xs.length → w.cell? ⟨g, o + i, none⟩ = some (.int .u8 (xs.getD i 0))

theorem IsR.kept {w w' : World} {g : Nat} {v : Value} {xs : List Int} {S : Nat → Prop} (h : IsR w g v xs) (hk : Kept S w w') (hS : ¬ S g) : IsR w' g v xs := by
  rcases h with h | ⟨o, c, h1, h2, h3, h4, hc⟩
  · exact .inl h
  · exact .inr ⟨o, c, h1, h2, h3, h4, fun i hi => hk.cell (hc i hi) hS⟩

theorem IsR.shape {w : World} {g : Nat} {v : Value} {xs : List Int} (h : IsR w g v xs) : ∃ ao c, v = .slice ao xs.length c := by
  rcases h with ⟨rfl, ao, _, rfl⟩ | ⟨o, c, rfl, _⟩
  · exact ⟨_, _, rfl⟩
  · exact ⟨_, _, rfl⟩

theorem IsR.len {w : World} {g : Nat} {v : Value} {xs : List Int} (h : IsR w g v xs) : xs.length ≤ maxLen := by
  rcases h with ⟨rfl, _⟩ | ⟨o, c, _, h1, _, h2, _⟩
  · exact Nat.zero_le _
  · omega

/-- Behind a call that met no fault: what is left. -/
def After (w w' : World) (r g : Nat) (f : Int) (rest : List Int) : Prop := ∃ v', Rd w' r v' true f ∧ IsR w' g v' rest ∧ Kept (fun k => k = r) w w'

theorem getD_drop (xs : List Int) (n i : Nat) : (xs.drop n).getD i 0 = xs.getD (n + i) 0 := by simp [List.getD, List.getElem?_drop]
theorem getD_take (xs : List Int) (n i : Nat) (h : i < n) : (xs.take n).getD i 0 = xs.getD i 0 := by simp [List.getD, h]

set_option maxRecDepth 100000 in
set_option maxHeartbeats 1000000 in
theorem take_row (r g o len c n : Nat) (w : World) (f : Int) (hr : Rd w r (.slice (some ⟨g, o, none⟩) len c) true f) (hn : n ≤ len) (hc : len ≤ c) (hc0 : 0 < c) (hm : c ≤ maxLen) :
    Calls Try.prog 64 #[.pointer (some ⟨r, 0, none⟩), .int .i64 n] w fun e w' => e = .returned (.slice (some ⟨g, o, none⟩) n c) ∧
      ((c = n ∧ w' = w.setCell ⟨r, 0, none⟩ (.slice (some ⟨g, o, none⟩) (len - n) 0)) ∨ (c ≠ n ∧ w' = w.setCell ⟨r, 0, none⟩ (.slice (some ⟨g, o + n, none⟩) (len - n) (c - n)))) := by
  obtain ⟨h0, h1, h2, f0, f1, f2, hl⟩ := hr.cells
  unfold maxLen at hm
  have hnI : (n : Int) ≤ (len : Int) := by omega
  have hcI : (len : Int) ≤ (c : Int) := by omega
  clear hr
  go_enter Try.func64, Try.ntmps64
  go_wp2
  all_goals go_ret
  all_goals exact ⟨rfl, rfl⟩

set_option maxRecDepth 100000 in
set_option maxHeartbeats 1000000 in
theorem take_zero (r : Nat) (ao : Option Addr) (w : World) (f : Int) (hr : Rd w r (.slice ao 0 0) true f) :
    Calls Try.prog 64 #[.pointer (some ⟨r, 0, none⟩), .int .i64 0] w fun e w' => e = .returned (.slice ao 0 0) ∧ w' = w.setCell ⟨r, 0, none⟩ (.slice ao 0 0) := by
  obtain ⟨h0, h1, h2, f0, f1, f2, hl⟩ := hr.cells
  clear hr
  cases ao with
  | none =>
    go_enter Try.func64, Try.ntmps64
    go_wp2
    go_ret
    exact ⟨rfl, rfl⟩
  | some a =>
    go_enter Try.func64, Try.ntmps64
    go_wp2
    go_ret
    exact ⟨rfl, rfl⟩

/-- take, where so many bytes are left. -/
theorem take_ok (r g n : Nat) (v : Value) (xs : List Int) (w : World) (f : Int) (hr : Rd w r v true f) (hx : IsR w g v xs) (hgr : g ≠ r) (hn : n ≤ xs.length) :
    Calls Try.prog 64 #[.pointer (some ⟨r, 0, none⟩), .int .i64 n] w fun e w' => (∃ v1, e = .returned v1 ∧ IsB w' v1 (xs.take n) ∧ (∀ b, v1.ownBlock = some b → b = g) ∧ (v1.ownBlock = none → v1 = .slice none 0 0)) ∧ After w w' r g f (xs.drop n) := by
  rcases hx with ⟨rfl, ao, hao, rfl⟩ | ⟨o, c, rfl, h1, h2, h3, hc⟩
  · obtain rfl : n = 0 := by simpa using hn
    refine (take_zero r ao w f hr).mono ?_
    rintro e w' ⟨rfl, rfl⟩
    refine ⟨⟨_, rfl, .inl ⟨rfl, _, _, rfl⟩, fun b hb => ?_, fun hb => ?_⟩, _, hr.set0 _, .inl ⟨rfl, ao, hao, rfl⟩, kept_set _ _ _ _⟩
    · rcases hao with rfl | ⟨o, rfl⟩
      · cases hb
      · exact (Option.some.inj hb).symm
    · rcases hao with rfl | ⟨o, rfl⟩
      · rfl
      · cases hb
  · have hlt : (xs.take n).length = n := by rw [List.length_take]; omega
    have hld : (xs.drop n).length = xs.length - n := List.length_drop
    have hcell : ∀ (w' : World) u, w' = w.setCell ⟨r, 0, none⟩ u → ∀ i, i < xs.length → w'.cell? ⟨g, o + i, none⟩ = some (.int .u8 (xs.getD i 0)) := by
      rintro w' u rfl i hi
      exact (kept_set w r 0 u).cell (hc i hi) hgr
    refine (take_row r g o xs.length c n w f hr hn h1 h2 h3).mono ?_
    rintro e w' ⟨rfl, hw⟩
    have hB : ∀ w' : World, (∀ i, i < xs.length → w'.cell? ⟨g, o + i, none⟩ = some (.int .u8 (xs.getD i 0))) → IsB w' (.slice (some ⟨g, o, none⟩) n c) (xs.take n) := fun w' h => .inr ⟨g, o, c, by rw [hlt], fun i hi => by
      rw [hlt] at hi
      rw [getD_take xs n i hi]
      exact h i (by omega)⟩
    rcases hw with ⟨hcn, rfl⟩ | ⟨hcn, rfl⟩
    · have hnil : xs.drop n = [] := List.drop_of_length_le (by omega)
      refine ⟨⟨_, rfl, hB _ (hcell _ _ rfl), fun b hb => (Option.some.inj hb).symm, fun hb => (by cases hb)⟩, _, hr.set0 _, ?_, kept_set _ _ _ _⟩
      rw [hnil]
      exact .inl ⟨rfl, some ⟨g, o, none⟩, .inr ⟨o, rfl⟩, by rw [show xs.length - n = 0 by omega]⟩
    · refine ⟨⟨_, rfl, hB _ (hcell _ _ rfl), fun b hb => (Option.some.inj hb).symm, fun hb => (by cases hb)⟩, _, hr.set0 _, ?_, kept_set _ _ _ _⟩
      refine .inr ⟨o + n, c - n, by rw [hld], by rw [hld]; omega, by omega, by omega, fun i hi => ?_⟩
      rw [hld] at hi
      rw [getD_drop, Nat.add_assoc]
      exact hcell _ _ rfl (n + i) (by omega)

set_option maxRecDepth 100000 in
set_option maxHeartbeats 1000000 in
/-- A form of one byte. -/
theorem rdform_small (r g : Nat) (v : Value) (u : Int) (rest : List Int) (w : World) (f : Int) (hr : Rd w r v true f) (hx : IsR w g v (u :: rest)) (hgr : g ≠ r) (h0 : 0 ≤ u) (h1 : u ≤ 247) :
    Calls Try.prog 62 #[.pointer (some ⟨r, 0, none⟩)] w fun e w' => e = .returned (.int .u64 u) ∧ After w w' r g f rest := by
  obtain ⟨q0, q1, q2, _, _, _, hl⟩ := hr.cells
  have ht := hid_of (take_ok r g 1 v (u :: rest) w f hr hx hgr (by simp))
  clear hr hx
  go_enter Try.func62, Try.ntmps62
  go_wp2_with fail
  refine ht.out.mono ?_
  rintro e w1 ⟨⟨v1, rfl, hb, hbg, _⟩, haf⟩
  obtain ⟨b, o, c, rfl, hc⟩ : ∃ b o c, v1 = .slice (some ⟨b, o, none⟩) 1 c ∧ w1.cell? ⟨b, o, none⟩ = some (.int .u8 u) := by
    rcases hb with ⟨h, _⟩ | ⟨b, o, c, rfl, hc⟩
    · cases h
    · exact ⟨b, o, c, rfl, hc 0 (by simp)⟩
  have HA := hid_of haf
  clear ht haf hb hbg
  go_wp2
  go_ret
  exact ⟨rfl, HA.out⟩

end Go.Proofs.Ytffabihenhejfaa

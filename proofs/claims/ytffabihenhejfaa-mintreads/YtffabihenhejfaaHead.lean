/-
  Done in whatever state; head; round.
-/
import Derived.Test.YtffabihenhejfaaStr
import Derived.Test.YtffabihenhejfaaLook
import Derived.WalkSmall
namespace Go.Proofs.Ytffabihenhejfaa
open Go.RowKit
set_option linter.unusedVariables false

def St.bytes : St → List Int
  | .ok l => l
  | .error _ => []
def St.err : St → Int
  | .ok _ => 0
  | .error e => e

set_option maxRecDepth 100000 in
set_option maxHeartbeats 1000000 in
theorem done_bad (a : Nat) (k : Int) (w : World) (hw : w.heap[a]? = some (.cells #[.slice none 0 0, .int .i64 k] 78 (0, 0))) :
    Calls Try.prog 29 #[.pointer (some ⟨a, 0, none⟩)] w fun e w' => e = .returned (.tuple #[.slice none 0 0, .int .i64 k]) ∧ w' = w.drew := by
  obtain ⟨h0, h1⟩ := bad_cells hw
  clear hw
  go_enter Try.func29, Try.ntmps29
  go_wp2
  go_region_held3 (fun w' => w'.cell? ⟨a, 0, none⟩ = some (.slice none 0 0) ∧ w'.cell? ⟨a, 1, none⟩ = some (.int .i64 k)) (first | exact ⟨h0, h1⟩ | assumption | go_keep)
    (first | (go_at_call 52; refine (clone_nil _).mono ?_; rintro e w' ⟨rfl, rfl⟩))
  go_wp2
  go_ret2
  exact ⟨rfl, rfl⟩

theorem done_s (a : Nat) (v : Value) (s : St) (w : World) (hw : WS w a v s) :
    Calls Try.prog 29 #[.pointer (some ⟨a, 0, none⟩)] w fun e w' => ∃ v', e = .returned (.tuple #[v', .int .i64 s.err]) ∧ w'.ownsRow w.heap.size 5 1 v' s.bytes.length (s.bytes.map (Value.int .u8)) ∧ Below w.heap.size w w' := by
  cases s with
  | ok l => exact done_any a v l w hw.1 hw.2
  | error k =>
    refine (done_bad a k w hw.1).mono ?_
    rintro e w' ⟨rfl, rfl⟩
    exact ⟨_, rfl, World.ownsRow_nil _ _ _ _, (Below.refl _ _).drew⟩

set_option maxRecDepth 100000 in
set_option maxHeartbeats 1000000 in
theorem round_any (x n : Int) (w : World) (h0 : -9223372036854775808 ≤ x) (h1 : x ≤ 9223372036854775807) (hn : 0 < n) (hn' : n ≤ 4611686018427387904) :
    Calls Try.prog 25 #[.int .i64 x, .int .i64 n] w fun e w' => e = .returned (.int .i64 (x % n)) ∧ w' = w := by
  have hz : (n == 0) = false := by simp; omega
  by_cases hx : 0 ≤ x
  · have e := Int.tmod_eq_emod_of_nonneg (b := n) hx
    have HE := hid_of e
    clear e
    have l1 := Int.emod_nonneg x (show n ≠ 0 by omega)
    have l2 := Int.emod_lt_of_pos x hn
    go_enter Try.func25, Try.ntmps25
    go_wp2
    go_ret
    exact ⟨rfl, rfl⟩
  · have e : x.tmod n = -((-x) % n) := by
      have h : x = -(-x) := by omega
      rw [h, Int.neg_tmod, Int.tmod_eq_emod_of_nonneg (by omega), Int.neg_neg]
    have l1 := Int.emod_nonneg (-x) (show n ≠ 0 by omega)
    have l2 := Int.emod_lt_of_pos (-x) hn
    have t1 : -n < x.tmod n := by omega
    have t2 : x.tmod n ≤ 0 := by omega
    have f : x % n = if x.tmod n < 0 then x.tmod n + n else x.tmod n := by
      rw [Int.emod_eq_tmod]
      by_cases hd : n ∣ x
      · have z := Int.tmod_eq_zero_of_dvd hd
        rw [if_pos (.inr hd), if_neg (by omega)]
        omega
      · have z : x.tmod n ≠ 0 := fun h => hd (Int.dvd_of_tmod_eq_zero h)
        rw [if_neg (by intro h; rcases h with h | h; exact hx h; exact hd h), if_pos (by omega)]
        omega
    have HF := hid_of f
    clear e l1 l2 f
    by_cases ht : x.tmod n < 0
    · go_enter Try.func25, Try.ntmps25
      go_wp2
      go_ret
      refine ⟨?_, rfl⟩
      rw [HF.out, if_pos ht]
      rfl
    · go_enter Try.func25, Try.ntmps25
      go_wp2
      go_ret
      refine ⟨?_, rfl⟩
      rw [HF.out, if_neg (by omega)]
      rfl
theorem wr_new_s (w : World) : WS (w.alloc (.cells #[.slice none 0 0, .int .i64 0] 78)) w.heap.size (.slice none 0 0) (.ok []) :=
  ⟨⟨heap_alloc_new w _, World.ownsRow_nil _ _ _ _, by simp [Value.ownBlock]⟩, by simp⟩

theorem form300 : Mth.form 300 = [249, 1, 44] := by decide

set_option maxRecDepth 100000 in
set_option maxHeartbeats 1000000 in
theorem head_any (w : World) : Calls Try.prog 20 #[] w fun e w' => e = .returned (.bool true) ∧ Below w.heap.size w w' := by
  go_enter Try.func20, Try.ntmps20
  go_wp2_with fail
  refine (new_any w).mono ?_
  rintro e w1 ⟨rfl, rfl⟩
  have hn := num_s w.heap.size (.slice none 0 0) (.ok []) 300 _ (wr_new_s w) (by decide) (by decide)
  have e1 : St.num (.ok []) 300 = .ok [249, 1, 44] := by simp [St.num, St.put, form300]
  rw [e1] at hn
  have HN := hid_of hn
  clear hn e1
  go_wp2_with fail
  refine HN.out.mono ?_
  rintro e w2 ⟨rfl, v2, hw2, hk2, _⟩
  have hb2 : Below w.heap.size w w2 := ((Below.refl _ w).alloc (Nat.le_refl _) _).trans (hk2.below (by simp) (by intro k hk; rcases hk with rfl | hk; exact Nat.le_refl _; cases hk))
  have hd := hid_of (done_s w.heap.size v2 _ w2 hw2)
  have HB := hid_of hb2
  clear HN hw2 hk2 hb2
  go_wp2_with fail
  refine hd.out.mono ?_
  rintro e w3 ⟨v3, rfl, hown, hb3⟩
  simp only [St.err, St.bytes] at hown ⊢
  have HB3 : Hid (Below w.heap.size w w3) := HB.out.trans (hb3.mono HB.out.size)
  have HS := hid_of (same_any v3 (.slice (some ⟨w3.heap.size, 0, none⟩) 3 3) [249, 1, 44] [249, 1, 44] (w3.alloc (.cells #[.int .u8 249, .int .u8 1, .int .u8 44] 5)) (isB_own (hown.alloc _)) (.inr ⟨_, 0, 3, rfl, fun i hi => by
    rw [cell_block _ _ _ _ _ _ (heap_alloc_new w3 _)]
    match i, hi with
    | 0, _ => rfl
    | 1, _ => rfl
    | 2, _ => rfl⟩) (by decide))
  clear hd hown hb3 HB
  go_wp2_with fail
  refine HS.out.mono ?_
  rintro e w4 ⟨rfl, n, rfl⟩
  clear HS
  go_wp2
  go_ret
  refine ⟨?_, below_drewN (HB3.out.alloc HB3.out.size _) n⟩
  simp
end Go.Proofs.Ytffabihenhejfaa

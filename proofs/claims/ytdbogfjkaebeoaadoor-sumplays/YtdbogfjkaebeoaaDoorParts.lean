/-
  beyond, joined by contract.
-/
import Derived.Test.YtdbogfjkaebeoaaDoorLend
import Derived.Test.YtdbogfjkaebeoaaDoorFill
namespace Go.Proofs.YtdbogfjkaebeoaaDoor
open Go.RowKit
set_option linter.unusedVariables false
set_option linter.unusedSimpArgs false

theorem PIn.kept {S : Nat → Prop} {w w' : World} {v : Value} {ls : List (List Int)} (h : PIn w v ls) (hk : Kept S w w') (hs : ∀ k, k < w.heap.size → ¬ S k) : PIn w' v ls := by
  obtain ⟨ao, c, rfl, hp⟩ := h
  refine ⟨ao, c, rfl, fun i hi => ?_⟩
  obtain ⟨b, o, u, rfl, hu, hB⟩ := hp i hi
  exact ⟨b, o, u, rfl, hk.cell hu (hs _ (World.block_lt_of_cell? w _ hu)), hB.kept hk hs⟩
def tot (ls : List (List Int)) (k : Nat) : Nat := (ls.take k).flatten.length
theorem tot_step (ls : List (List Int)) (k : Nat) (hk : k < ls.length) : tot ls (k + 1) = tot ls k + (ls.getD k []).length := by
  unfold tot
  rw [flat_take ls k hk, List.length_append]
theorem tot_le (ls : List (List Int)) (k : Nat) : tot ls k ≤ ls.flatten.length := flat_le ls k
theorem tot_all (ls : List (List Int)) : tot ls ls.length = ls.flatten.length := by
  unfold tot
  rw [List.take_length]
theorem mem_getD (ls : List (List Int)) (k : Nat) (hk : k < ls.length) : ls.getD k [] ∈ ls := by
  rw [List.getD, List.getElem?_eq_getElem hk]
  simp

set_option maxRecDepth 100000 in
set_option maxHeartbeats 1000000 in
theorem beyond_any (pv : Value) (ls : List (List Int)) (w : World) (hP : PIn w pv ls) (hll : ls.length < 4611686018427387904) (hlen : ∀ l ∈ ls, l.length ≤ 140737488355328) :
    Calls Tryd.prog 10 #[pv] w fun e w' => e = .returned (.bool (decide (2147483647 < ls.flatten.length))) ∧ w' = w := by
  obtain ⟨ao, c, rfl, hp⟩ := hP
  have HP := hid_of hp
  have HLEN := hid_of hlen
  have HFL := hid_of (tot_le ls)
  have HALL := hid_of (tot_all ls)
  have HSTEP := hid_of (tot_step ls)
  have HMEM := hid_of (mem_getD ls)
  have HZ : Hid (tot ls 0 = 0) := rfl
  clear hp hlen
  generalize hM : ls.length = m at *
  have HM := hid_of hM
  clear hM
  generalize ls.flatten.length = L at *
  generalize tot ls = t at *
  go_enter Tryd.func10, Tryd.ntmps10
  go_wp2
  go_loop [3, 4] (fun n i => ∃ k : Nat, k ≤ m ∧ n = .int .i64 (t k : Int) ∧ i = .int .i64 k ∧ t k ≤ 140737488355328 + 2147483647) (fun _ i => m - (intOf i).toNat)
  case atStart => exact ⟨0, by omega, by rw [HZ.out]; rfl, rfl, by rw [HZ.out]; omega⟩
  case round =>
    obtain ⟨k, hk, rfl, rfl, hb⟩ := hrel
    by_cases hlt : k < m
    · have hkI : (k : Int) < (m : Int) := by omega
      by_cases hs : t k ≤ 2147483647
      · obtain ⟨b, o, u, rfl, hu, ao', c', rfl, hc', _⟩ := HP.out k hlt
        have hst := HSTEP.out k hlt
        have hle := HLEN.out _ (HMEM.out k hlt)
        generalize (ls.getD k []).length = q at *
        have hsI : (t k : Int) ≤ 2147483647 := by omega
        have HST := hid_of hst
        clear hst
        go_wp2
        go_round
        case rel => exact ⟨k + 1, by omega, by rw [HST.out]; go_num, by go_num, by rw [HST.out]; omega⟩
        case measure => simp [intOf]; omega
      · have hL := HFL.out k
        have hsI : 2147483647 < (t k : Int) := by omega
        have hd : decide (2147483647 < L) = true := by rw [decide_eq_true_iff]; omega
        have HD := hid_of hd
        clear hL hd
        go_wp2
        go_ret
        refine ⟨?_, rfl⟩
        rw [HD.out]
        first | rfl | (show Ending.returned (Value.bool (decide (2147483647 < ((t k : Nat) : Int)))) = _; rw [decide_eq_false (by omega)])
    · obtain rfl : k = m := by omega
      have hL := HALL.out
      by_cases hs : t k ≤ 2147483647
      · have hsI : (t k : Int) ≤ 2147483647 := by omega
        have hd : decide (2147483647 < L) = false := by rw [decide_eq_false_iff_not]; omega
        have HD := hid_of hd
        clear hL hd
        go_wp2
        go_ret
        refine ⟨?_, rfl⟩
        rw [HD.out]
        first | rfl | (show Ending.returned (Value.bool (decide (2147483647 < ((t k : Nat) : Int)))) = _; rw [decide_eq_false (by omega)])
      · have hsI : 2147483647 < (t k : Int) := by omega
        have hd : decide (2147483647 < L) = true := by rw [decide_eq_true_iff]; omega
        have HD := hid_of hd
        clear hL hd
        go_wp2
        go_ret
        refine ⟨?_, rfl⟩
        rw [HD.out]
        first | rfl | (show Ending.returned (Value.bool (decide (2147483647 < ((t k : Nat) : Int)))) = _; rw [decide_eq_false (by omega)])

theorem bin_own {w : World} {base n : Nat} {v : Value} {xs : List Int} (h : w.ownsRow base 5 1 v n (xs.map (Value.int .u8))) : BIn w v xs := by
  have hl : xs.length = n := by have := h.1; simpa using this
  subst hl
  rcases h.2 with ⟨rfl, h0⟩ | ⟨g, cap, cur, rfl, hb, hg, hc, hm, hs, ht⟩
  · have e : xs = [] := List.eq_nil_of_length_eq_zero h0
    subst e
    exact ⟨none, 0, rfl, Nat.le_refl _, .inl rfl⟩
  · refine ⟨_, cap, rfl, hc, .inr ⟨g, 0, rfl, fun i hi => ?_⟩⟩
    have := h.cells (g := g) rfl i (.int .u8 (xs.getD i 0)) (by simp [List.getD, List.getElem?_eq_getElem hi])
    rw [Addr.add_mid] at this
    exact this

set_option maxRecDepth 100000 in
set_option maxHeartbeats 1000000 in
theorem joined_any (pv : Value) (ls : List (List Int)) (w : World) (hP : PIn w pv ls) (hll : ls.length < 4611686018427387904) (hlen : ls.flatten.length ≤ 2147483647) :
    Calls Tryd.prog 16 #[pv] w fun e w' => ∃ ao c, e = .returned (.slice ao ls.flatten.length c) ∧ BIn w' (.slice ao ls.flatten.length c) ls.flatten ∧ Kept (fun _ => False) w w' := by
  have HPI := hid_of hP
  obtain ⟨ao, c, rfl, hp⟩ := hP
  have HP := hid_of hp
  clear hp
  generalize hM : ls.length = m at *
  have HM := hid_of hM
  clear hM
  go_enter Tryd.func16, Tryd.ntmps16
  go_wp2
  go_loopw [3, 4] (fun v i wr => ∃ k : Nat, k ≤ m ∧ i = .int .i64 k ∧ wr.ownsRow w.heap.size 5 1 v (tot ls k) ((ls.take k).flatten.map (Value.int .u8)) ∧ Kept (fun k => w.heap.size ≤ k) w wr) (fun _ i _ => m - (intOf i).toNat)
  case atStart => exact ⟨0, by omega, rfl, World.ownsRow_nil _ _ _ _, Kept.refl _ _⟩
  case round =>
    obtain ⟨k, hk, rfl, hO, hK⟩ := hrel
    by_cases hlt : k < m
    · have hkI : (k : Int) < (m : Int) := by omega
      have hkl : k < ls.length := by rw [HM.out]; exact hlt
      obtain ⟨b, o, u, rfl, hu, hB⟩ := HP.out k hlt
      have hu' := hK.cell hu (by have := World.block_lt_of_cell? w _ hu; simp only at this; show ¬ (w.heap.size ≤ b); omega)
      have hB' := hB.kept hK (fun k hk => by omega)
      have hts := tot_step ls k hkl
      have htl := tot_le ls (k + 1)
      obtain ⟨v3, w3, hr3, ho3, hg3⟩ := app_any wr _ _ _ _ 25 u (ls.getD k []) hO hB' hK.size (by omega)
      have HO3 : Hid (w3.ownsRow w.heap.size 5 1 v3 (tot ls (k + 1)) ((ls.take (k + 1)).flatten.map (Value.int .u8))) := by
        rw [hts, flat_take ls k hkl]
        exact ho3
      have HK3 : Hid (Kept (fun k => w.heap.size ≤ k) w w3) := hK.grown hg3 (fun k hk => .inr (hO.lt k hk).1)
      clear hO hK ho3 hg3 hB hB' hu hts htl
      go_wp2_with (refine wp_app rfl (.tmp 11) (.tmp 15) 25 25 ?_ _ _ rfl rfl v3 w3 ?_ ?_; rfl; exact hr3)
      go_roundw
      case rel => exact ⟨k + 1, by omega, by go_num, HO3.out, HK3.out⟩
      case measure => simp [intOf]; omega
    · obtain rfl : k = m := by omega
      rw [← HM.out, List.take_length, tot_all] at hO
      have HB := hid_of (bin_own hO)
      have HK : Hid (Kept (fun _ => False) w wr) := ⟨hK.os, hK.tape, hK.output, hK.size, fun i hi hn => hK.block i hi (by omega)⟩
      obtain ⟨ao', c', rfl⟩ : ∃ ao c, u3 = .slice ao ls.flatten.length c := by
        obtain ⟨ao, c, h, _⟩ := HB.out
        exact ⟨ao, c, h⟩
      clear hO hK
      go_wp2
      go_ret
      exact ⟨_, _, rfl, HB.out, HK.out⟩
end Go.Proofs.YtdbogfjkaebeoaaDoor

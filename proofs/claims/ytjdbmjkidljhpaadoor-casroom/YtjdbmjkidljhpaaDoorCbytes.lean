/-
  bytes.Clone, bytes.Equal, the law's Same, by contract.
-/
import Derived.Test.YtjdbmjkidljhpaaDoorKnown
import Derived.Laws.BytesString
import Derived.Lib.SliceRun
namespace Go.Proofs.YtjdbmjkidljhpaaDoor
open Go.RowKit
set_option linter.unusedVariables false
set_option maxRecDepth 100000
set_option linter.unusedSimpArgs false

theorem drew2 (w : World) (n m : Nat) : (w.drewN n).drewN m = w.drewN (n + m) := by
  simp [World.drewN, Nat.add_assoc]
theorem take_same {xs ys : List Int} {k N : Nat} (hx : xs.length = N) (hy : ys.length = N) (hk : k < N) (h : xs.take k = ys.take k) (he : xs.getD k 0 = ys.getD k 0) : xs.take (k + 1) = ys.take (k + 1) := by
  have h1 : k < xs.length := by omega
  have h2 : k < ys.length := by omega
  rw [List.take_succ_eq_append_getElem h1, List.take_succ_eq_append_getElem h2, h]
  simp [List.getD, List.getElem?_eq_getElem h1, List.getElem?_eq_getElem h2] at he
  rw [he]
theorem take_all {xs ys : List Int} {k N : Nat} (hx : xs.length = N) (hy : ys.length = N) (hk : ¬ k < N) (h : xs.take k = ys.take k) : decide (xs = ys) = true := by
  rw [List.take_of_length_le (by omega), List.take_of_length_le (by omega)] at h
  simpa using h

set_option maxRecDepth 100000 in
set_option maxHeartbeats 1000000 in
theorem same_rows (g o c g' o' c' N : Nat) (xs ys : List Int) (w : World) (hxl : xs.length = N) (hyl : ys.length = N) (hm : N ≤ maxLen) (hx : ∀ i, i < N → w.cell? ⟨g, o + i, none⟩ = some (.int .u8 (xs.getD i 0)))
    (hy : ∀ i, i < N → w.cell? ⟨g', o' + i, none⟩ = some (.int .u8 (ys.getD i 0))) :
    Calls Tryd.prog 23 #[.slice (some ⟨g, o, none⟩) N c, .slice (some ⟨g', o', none⟩) N c'] w fun e w' => e = .returned (.bool (decide (xs = ys))) ∧ ∃ n, w' = w.drewN n := by
  unfold maxLen at hm
  have HX := hid_of hxl
  have HY := hid_of hyl
  have CX := hid_of hx
  have CY := hid_of hy
  clear hxl hyl hx hy
  go_enter Tryd.func23, Tryd.ntmps23
  go_wp2
  go_loopw [5] (fun i wr => ∃ k n : Nat, k ≤ N ∧ i = .int .i64 k ∧ xs.take k = ys.take k ∧ wr = w.drewN n) (fun i _ => N - (intOf i).toNat)
  case atStart => exact ⟨0, 0, Nat.zero_le _, rfl, rfl, rfl⟩
  case round =>
    obtain ⟨k, n, hk, rfl, ht, rfl⟩ := hrel
    have HT := hid_of ht
    clear ht
    by_cases hlt : k < N
    · have ex := CX.out k hlt
      have ey := CY.out k hlt
      have hkI : (k : Int) < (N : Int) := by omega
      have HE := hid_of (Classical.em (xs.getD k 0 = ys.getD k 0))
      have TS := hid_of (take_same HX.out HY.out hlt HT.out)
      have NE : Hid (xs.getD k 0 ≠ ys.getD k 0 → decide (xs = ys) = false) := fun h => decide_eq_false (fun e => h (by rw [e]))
      clear CX CY HX HY HT
      generalize xs.getD k 0 = x at *
      generalize ys.getD k 0 = y at *
      rcases HE.out with he | he
      · have hb : (x != y) = false := by simp [he]
        have T := hid_of (TS.out he)
        clear TS NE HE he
        go_wp2_with fail
        go_quiet (fail)
        go_wp2
        go_roundw
        case rel => exact ⟨k + 1, n + nq, by omega, by go_num, T.out, by first | rfl | exact drew2 _ _ _⟩
        case measure => simp [intOf]; omega
      · have hb : (x != y) = true := by simp [he]
        have T := hid_of (NE.out he)
        clear TS NE HE he
        go_wp2_with fail
        go_quiet (fail)
        go_wp2
        go_ret
        refine ⟨?_, n + nq, by first | rfl | exact drew2 _ _ _⟩
        rw [T.out]
        rfl
    · have T := hid_of (take_all HX.out HY.out hlt HT.out)
      clear HX HY HT CX CY
      go_wp2
      go_ret
      refine ⟨?_, n, rfl⟩
      rw [T.out]
      rfl

set_option maxRecDepth 100000 in
set_option maxHeartbeats 1000000 in
theorem same_unlike (ao ao' : Option Addr) (n m c c' : Nat) (xs ys : List Int) (w : World) (hxl : xs.length = n) (hyl : ys.length = m) (h : n ≠ m) :
    Calls Tryd.prog 23 #[.slice ao n c, .slice ao' m c'] w fun e w' => e = .returned (.bool (decide (xs = ys))) ∧ ∃ k, w' = w.drewN k := by
  have e : decide (xs = ys) = false := decide_eq_false (fun e => h (by rw [← hxl, ← hyl, e]))
  rw [e]
  have hb : ((n : Int) != (m : Int)) = true := by simp; omega
  clear hxl hyl e
  go_enter Tryd.func23, Tryd.ntmps23
  go_wp2
  go_ret
  exact ⟨rfl, 0, rfl⟩

set_option maxRecDepth 100000 in
set_option maxHeartbeats 1000000 in
theorem same_none (ao ao' : Option Addr) (c c' : Nat) (w : World) :
    Calls Tryd.prog 23 #[.slice ao 0 c, .slice ao' 0 c'] w fun e w' => e = .returned (.bool true) ∧ ∃ k, w' = w.drewN k := by
  go_enter Tryd.func23, Tryd.ntmps23
  go_wp2
  go_loop [5] (fun i => i = .int .i64 0) (fun _ => 0)
  case atStart => rfl
  case round =>
    subst hrel
    go_wp2
    go_ret
    exact ⟨rfl, 0, rfl⟩


theorem same_any (v v' : Value) (xs ys : List Int) (w : World) (hx : BIn w v xs) (hy : BIn w v' ys) (hm : xs.length ≤ maxLen) :
    Calls Tryd.prog 23 #[v, v'] w fun e w' => e = .returned (.bool (decide (xs = ys))) ∧ Kept (fun _ => False) w w' := by
  obtain ⟨ao, c, rfl, hc, h1⟩ := hx
  obtain ⟨ao', c', rfl, hc', h2⟩ := hy
  by_cases hl : xs.length = ys.length
  · by_cases h0 : xs.length = 0
    · have e1 : xs = [] := List.length_eq_zero_iff.1 h0
      have e2 : ys = [] := List.length_eq_zero_iff.1 (by omega)
      subst e1
      subst e2
      refine (same_none ao ao' c c' w).mono ?_
      rintro e w' ⟨rfl, n, rfl⟩
      exact ⟨rfl, kept_drewN (Kept.refl _ _) n⟩
    · rcases h1 with h1 | ⟨b, o, rfl, h1⟩
      · rw [h1] at h0; exact absurd rfl h0
      rcases h2 with h2 | ⟨b', o', rfl, h2⟩
      · rw [h2] at hl; exact absurd hl h0
      rw [← hl]
      refine (same_rows b o c b' o' c' xs.length xs ys w rfl hl.symm hm h1 (fun i hi => h2 i (by omega))).mono ?_
      rintro e w' ⟨rfl, n, rfl⟩
      exact ⟨rfl, kept_drewN (Kept.refl _ _) n⟩
  · refine (same_unlike ao ao' xs.length ys.length c c' xs ys w rfl rfl hl).mono ?_
    rintro e w' ⟨rfl, n, rfl⟩
    exact ⟨rfl, kept_drewN (Kept.refl _ _) n⟩

theorem eqNil (w : World) (a : Option Addr) (n c n' c' : Nat) : (binOp .eql 26 (.slice a n c) (.slice none n' c')).run Tryd.prog w = .ok (.bool a.isNone) w :=
  Lib.run_eql_slice_nil w _ _ a n c n' c' Tryd.underlying26
theorem infoB : (Tryd.prog.info? 5).map (fun i => (i.zero, i.size, i.bytes)) = some (some (.int .u8 0), 1, 1) := by kernel_rfl
theorem ones8 (xs : List Int) : ∀ u ∈ xs.map (Value.int .u8), u.oneCell' = true := by
  intro u hu
  obtain ⟨_, _, rfl⟩ := List.mem_map.1 hu
  rfl

set_option maxRecDepth 100000 in
theorem clone_nil (c : Nat) (w : World) : Calls Tryd.prog 35 #[.slice none 0 c] w fun e w' => e = .returned (.slice none 0 0) ∧ w' = w := by
  have q := eqNil
  go_enter Tryd.func35, Tryd.ntmps35
  go_wp2
  go_ret
  exact ⟨rfl, rfl⟩

set_option maxRecDepth 100000 in
set_option maxHeartbeats 400000 in
theorem clone_row (p : Addr) (m c : Nat) (xs : List Int) (w : World) (hx : xs.length = m) (hbig : m ≤ 140737488355328)
    (hc : ∀ j u, (xs.map (Value.int .u8))[j]? = some u → w.cell? (p.add j) = some u) :
    Calls Tryd.prog 35 #[.slice (some p) m c] w fun e w' => ∃ v', e = .returned v' ∧ w'.ownsRow w.heap.size 5 1 v' m (xs.map (Value.int .u8)) ∧ Below w.heap.size w w' := by
  obtain ⟨i0, hi, hz0, hz1, hz2⟩ := info_parts infoB
  have A : Hid (∀ j u, (xs.map (Value.int .u8))[j]? = some u → (w.alloc (.cells #[] 5)).cell? (p.add j) = some u) := fun j u h => Lib.cell?_alloc_some _ (hc j u h)
  clear hc
  have q := eqNil
  go_enter Tryd.func35, Tryd.ntmps35
  go_wp2_with (at_builtin; refine wpList_append_own _ rfl _ _ 26 rfl w.heap.size 5 i0 (.int .u8 0) 1 1 Tryd.underlying26 hi hz0 hz1 hz2 rfl (by decide) _ _ _ rfl (World.ownsRow_made w #[] 0 (Nat.le_refl _) (Nat.zero_le _) rfl) p m c (xs.map (Value.int .u8)) rfl (by simp [hx]) A.out (ones8 xs) (by unfold maxLen; omega) (by omega) (by simp) ?_)
  intro v' w1 hown hgrow hnil
  go_wp2
  go_ret
  refine ⟨v', rfl, by simpa using hown, ?_⟩
  exact ((Below.refl _ w).alloc (Nat.le_refl _) _).grown hgrow (by simp) (by intro k hk; rw [← Option.some.inj hk]; exact Nat.le_refl _)

/-- A row of one's own, as bytes to be read. -/
theorem own_bin {w : World} {B : Nat} {v : Value} {n : Nat} {xs : List Int} (h : w.ownsRow B 5 1 v n (xs.map (Value.int .u8))) : BIn w v xs ∧ ∀ g, v.ownBlock = some g → B ≤ g ∧ g < w.heap.size := by
  have hn : xs.length = n := by have := h.1; simpa using this
  refine ⟨?_, fun g hg => h.lt g hg⟩
  rcases h.2 with ⟨rfl, h0⟩ | ⟨g, cap, cur, rfl, hb, hg, hc, hm, hs, ht⟩
  · exact ⟨none, 0, by rw [hn, h0], by omega, .inl (List.length_eq_zero_iff.1 (by omega))⟩
  · refine ⟨some ⟨g, 0, none⟩, cap, by rw [hn], by omega, .inr ⟨g, 0, rfl, fun i hi => ?_⟩⟩
    have := h.cells (g := g) rfl i (.int .u8 (xs.getD i 0)) (by simp [List.getD, hi])
    rwa [Addr.add_mid] at this

theorem clone_any (bv : Value) (xs : List Int) (w : World) (hx : BIn w bv xs) (hn : xs.length ≤ 140737488355328) :
    Calls Tryd.prog 35 #[bv] w fun e w' => ∃ v', e = .returned v' ∧ BIn w' v' xs ∧ (∀ g, v'.ownBlock = some g → w.heap.size ≤ g ∧ g < w'.heap.size) ∧ Kept (fun _ => False) w w' := by
  obtain ⟨ao, c, rfl, hc, h1⟩ := hx
  cases ao with
  | none =>
    have h0 : xs = [] := by
      rcases h1 with h1 | ⟨b, o, h, _⟩
      · exact h1
      · cases h
    subst h0
    refine (clone_nil c w).mono ?_
    rintro e w' ⟨rfl, rfl⟩
    exact ⟨_, rfl, ⟨none, 0, rfl, Nat.le_refl _, .inl rfl⟩, fun g hg => (by cases hg), Kept.refl _ _⟩
  | some p =>
    have hcc : ∀ j u, (xs.map (Value.int .u8))[j]? = some u → w.cell? (p.add j) = some u := by
      intro j u hj
      have hjl : j < xs.length := by
        have := (List.getElem?_eq_some_iff.1 hj).1
        simpa using this
      rcases h1 with h1 | ⟨b, o, h, h1⟩
      · rw [h1] at hjl; exact absurd hjl (Nat.not_lt_zero _)
      · cases h
        rw [Addr.add_mid, h1 j hjl]
        simp [List.getElem?_map, List.getElem?_eq_getElem hjl] at hj
        simp [List.getD, List.getElem?_eq_getElem hjl, hj]
    refine (clone_row p xs.length c xs w rfl hn hcc).mono ?_
    rintro e w' ⟨v', rfl, ho, hb⟩
    obtain ⟨h2, h3⟩ := own_bin ho
    exact ⟨v', rfl, h2, h3, ⟨hb.os, hb.tape, hb.output, hb.size, fun k hk _ => hb.block k hk⟩⟩
end Go.Proofs.YtjdbmjkidljhpaaDoor

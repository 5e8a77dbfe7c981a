/-
  The reference's goes, by contract.
-/
import Derived.Test.YthloacakomahaaaBools
import Derived.Test.YthloacakomahaaaTable
namespace Go.Proofs.Ythloacakomahaaa
open Go.RowKit
set_option linter.unusedVariables false
set_option linter.unusedSimpArgs false

variable {lo : Nat → Bool} {ta : Nat → Nat → Bool} {M n : Nat}

theorem row_next {i k : Nat} {p : Nat → Bool} {W : World} {b : Nat} {v : Bool} (h : Bs W b (n + 1) (fun j => if j < k then rowG lo ta i p j else false)) (hk : k < n + 1) (hv : v = rowG lo ta i p k) :
    Bs (W.setCell ⟨b, k, none⟩ (.bool v)) b (n + 1) (fun j => if j < k + 1 then rowG lo ta i p j else false) := by
  refine (h.set hk v).same fun j hj => ?_
  show (if j = k then v else if j < k then rowG lo ta i p j else false) = if j < k + 1 then rowG lo ta i p j else false
  by_cases e : j = k
  · rw [if_pos e, if_pos (by omega), hv, e]
  · rw [if_neg e]
    by_cases e2 : j < k
    · rw [if_pos e2, if_pos (by omega)]
    · rw [if_neg e2, if_neg (by omega)]

set_option maxRecDepth 100000 in
set_option maxHeartbeats 2000000 in
theorem rgoes_any (bm bo : Nat) (bs : Nat → Nat) (w : World) (hM : M ≤ 1048576) (hn : n ≤ 1048576) (hm : Bs w bm M lo) (ho : ∀ i, i < M → w.cell? ⟨bo, i, none⟩ = some (.slice (some ⟨bs i, 0, none⟩) n n)) (hbo : bo < w.heap.size) (ht : ∀ i, i < M → Bs w (bs i) n (ta i)) :
    Calls Try.prog 46 #[.slice (some ⟨bm, 0, none⟩) M M, .slice (some ⟨bo, 0, none⟩) M M, .int .i64 n] w fun e w' => e = .returned (.bool (tabG lo ta M n)) ∧ Kept (fun _ => False) w w' := by
  have HM := hid_of hm
  have HO := hid_of ho
  have HT := hid_of ht
  clear hm ho ht
  have mk : ∀ W : World, (Instr.makeSlice 65 (.int .i64 ((n : Int) + 1)) (.int .i64 ((n : Int) + 1))).run Try.prog W = .ok (.slice (some ⟨W.heap.size, 0, none⟩) (n + 1) (n + 1)) (W.alloc (.cells (falses (n + 1)) 4)) := fun W => make_bools W (n + 1) (by omega)
  have B0 := Bs.new w (n + 1)
  have c0 := B0.cell (k := 0) (by omega)
  have f0 := B0.free (k := 0)
  have HB0 := hid_of B0
  clear B0
  go_enter Try.func46, Try.ntmps46
  go_wp2
  go_loopw [7, 8] (fun av iv wr => ∃ (i ba : Nat), av = .slice (some ⟨ba, 0, none⟩) (n + 1) (n + 1) ∧ iv = .int .i64 i ∧ i ≤ M ∧ w.heap.size ≤ ba ∧ Bs wr ba (n + 1) (tabG lo ta i) ∧ Kept (fun _ => False) w wr) (fun _ iv _ => M - (intOf iv).toNat)
  case atStart =>
    refine ⟨0, w.heap.size, rfl, rfl, by omega, Nat.le_refl _, ⟨_, alloc_new w _ rfl, by rw [Array.size_setIfInBounds]; exact size_madeCells _ _, fun j hj => ?_⟩, (Kept.refl _ w).alloc _⟩
    rw [Array.getElem?_setIfInBounds]
    have hsz : (falses (n + 1)).size = n + 1 := size_madeCells _ _
    cases j with
    | zero => rw [if_pos rfl, if_pos (by omega)]; rfl
    | succ j => rw [if_neg (by omega), falses_at _ _ hj]; rfl
  case round =>
    obtain ⟨i, ba, rfl, rfl, hi, hba, hB, hk⟩ := hrel
    have HB := hid_of hB
    have HK := hid_of hk
    clear hB hk
    by_cases h1 : i < M
    case neg =>
      obtain rfl : i = M := by omega
      have g := HB.out.cell (k := n) (by omega)
      go_wp2
      go_ret
      exact ⟨rfl, HK.out⟩
    go_wp2
    obtain ⟨X, hX⟩ : ∃ X, X = wr := ⟨_, rfl⟩
    subst hX
    go_loopw [10] (fun kv wr2 => ∃ k : Nat, kv = .int .i64 k ∧ k ≤ n + 1 ∧ Bs wr2 X.heap.size (n + 1) (fun j => if j < k then rowG lo ta i (tabG lo ta i) j else false) ∧ Kept (fun _ => False) X wr2) (fun kv _ => n + 1 - (intOf kv).toNat)
    case atStart => exact ⟨0, rfl, by omega, (Bs.new X (n + 1)).same (fun j hj => by simp), (Kept.refl _ X).alloc _⟩
    case round =>
      obtain ⟨k, rfl, hk1, hN, hk2⟩ := hrel
      have KW := HK.out.trans hk2
      have cm := (HM.out.keep KW).cell h1
      have A := HB.out.keep hk2
      have co := ((KW.below (B := w.heap.size) (Nat.le_refl _) (fun _ h => h.elim)).cell (p := ⟨bo, i, none⟩) hbo).trans (HO.out i h1)
      have T := (HT.out i h1).keep KW
      have HN := hid_of hN
      have HW2 := hid_of hk2
      have HKW := hid_of KW
      have hfz := hN.free (k := k)
      have hi0 : (0 : Int) ≤ (i : Int) := by omega
      by_cases hkn : k < n + 1
      case neg =>
        obtain rfl : k = n + 1 := by omega
        have HR : Hid (Bs wr X.heap.size (n + 1) (tabG lo ta (i + 1))) := hN.same fun j hj => by
          show (if j < n + 1 then _ else _) = _
          rw [if_pos hj]
          rfl
        clear A T hN hk2 KW
        go_wp2
        exact ⟨⟨i + 1, X.heap.size, rfl, rfl, h1, HK.out.size, HR.out, HKW.out⟩, by simp [intOf]; omega⟩
      have hck := hN.cell (k := k) hkn
      cases k with
      | zero =>
        have ca := A.cell (k := 0) (by omega)
        clear A T hN hk2 KW
        cases hl : lo i with
        | true =>
          rw [hl] at cm
          cases hp : tabG lo ta i 0 with
          | true =>
            rw [hp] at ca
            go_wp2
            exact ⟨⟨0 + 1, rfl, hkn, row_next HN.out hkn (by rw [rowG, hl, hp]; rfl), HW2.out.setCell (p := ⟨X.heap.size, 0, none⟩) (.inl (by simp)) _⟩, by simp [intOf]⟩
          | false =>
            rw [hp] at ca
            go_wp2
            exact ⟨⟨0 + 1, rfl, hkn, row_next HN.out hkn (by rw [rowG, hl, hp]; rfl), HW2.out.setCell (p := ⟨X.heap.size, 0, none⟩) (.inl (by simp)) _⟩, by simp [intOf]⟩
        | false =>
          rw [hl] at cm
          go_wp2
          exact ⟨⟨0 + 1, rfl, hkn, row_next HN.out hkn (by rw [rowG, hl]; rfl), HW2.out.setCell (p := ⟨X.heap.size, 0, none⟩) (.inl (by simp)) _⟩, by simp [intOf]⟩
      | succ j =>
        have ca := A.cell (k := j + 1) (by omega)
        have cj := A.cell (k := j) (by omega)
        have ct := T.cell (k := j) (by omega)
        have cn := hN.cell (k := j) (by omega)
        rw [if_pos (Nat.lt_succ_self j)] at cn
        have hj0 : (0 : Int) ≤ (j : Int) := by omega
        clear A T hN hk2 KW
        cases hl : lo i with
        | true =>
          rw [hl] at cm
          cases hp : tabG lo ta i (j + 1) with
          | true =>
            rw [hp] at ca
            go_wp2
            exact ⟨⟨(j + 1) + 1, rfl, hkn, row_next HN.out hkn (by rw [rowG, if_pos hl, hp]; rfl), HW2.out.setCell (p := ⟨X.heap.size, (j + 1), none⟩) (.inl (by simp)) _⟩, by simp [intOf]; omega⟩
          | false =>
            rw [hp] at ca
            cases hq : rowG lo ta i (tabG lo ta i) j with
            | true =>
              rw [hq] at cn
              go_wp2
              exact ⟨⟨(j + 1) + 1, rfl, hkn, row_next HN.out hkn (by rw [rowG, if_pos hl, hp, hq]; rfl), HW2.out.setCell (p := ⟨X.heap.size, (j + 1), none⟩) (.inl (by simp)) _⟩, by simp [intOf]; omega⟩
            | false =>
              rw [hq] at cn
              go_wp2
              exact ⟨⟨(j + 1) + 1, rfl, hkn, row_next HN.out hkn (by rw [rowG, if_pos hl, hp, hq]; rfl), HW2.out.setCell (p := ⟨X.heap.size, (j + 1), none⟩) (.inl (by simp)) _⟩, by simp [intOf]; omega⟩
        | false =>
          rw [hl] at cm
          have hl' : ¬ lo i = true := by rw [hl]; simp
          cases hp : tabG lo ta i j with
          | true =>
            rw [hp] at cj
            cases hq : ta i j with
            | true =>
              rw [hq] at ct
              go_wp2
              exact ⟨⟨(j + 1) + 1, rfl, hkn, row_next HN.out hkn (by rw [rowG, if_neg hl', hp, hq]; rfl), HW2.out.setCell (p := ⟨X.heap.size, (j + 1), none⟩) (.inl (by simp)) _⟩, by simp [intOf]; omega⟩
            | false =>
              rw [hq] at ct
              go_wp2
              exact ⟨⟨(j + 1) + 1, rfl, hkn, row_next HN.out hkn (by rw [rowG, if_neg hl', hp, hq]; rfl), HW2.out.setCell (p := ⟨X.heap.size, (j + 1), none⟩) (.inl (by simp)) _⟩, by simp [intOf]; omega⟩
          | false =>
            rw [hp] at cj
            go_wp2
            exact ⟨⟨(j + 1) + 1, rfl, hkn, row_next HN.out hkn (by rw [rowG, if_neg hl', hp]; rfl), HW2.out.setCell (p := ⟨X.heap.size, (j + 1), none⟩) (.inl (by simp)) _⟩, by simp [intOf]; omega⟩
end Go.Proofs.Ythloacakomahaaa

/-
  Pieces in a row: fits, tooFar.
-/
import Derived.Test.YtkilngknklpadaaGreatDoorAd
namespace Go.Proofs.YtkilngknklpadaaGreatDoor
open Go.RowKit
set_option linter.unusedVariables false
set_option linter.unusedSimpArgs false
set_option maxRecDepth 100000

/-- Pieces that lie somewhere. -/
def PsAt (w : World) (g o : Nat) (ps : List Pc) : Prop := ∀ i p, ps[i]? = some p → w.rangeAt g (o + i * 4) p.cells
theorem PsAt.kept {S : Nat → Prop} {w w' : World} {g o : Nat} {ps : List Pc} (h : PsAt w g o ps) (hk : Kept S w w') (hn : ¬ S g) : PsAt w' g o ps := fun i p hp j v hv => hk.cell (h i p hp j v hv) hn
theorem pcells_at (ps : List Pc) : ∀ (i : Nat) (p : Pc), ps[i]? = some p → ∀ (j : Nat), j < 4 → (pcells ps)[i * 4 + j]? = p.cells[j]? := by
  induction ps with
  | nil => intro i p h; simp at h
  | cons q qs ih =>
    intro i p h j hj
    have e : pcells (q :: qs) = q.cells ++ pcells qs := rfl
    have hl : q.cells.length = 4 := rfl
    rw [e]
    cases i with
    | zero =>
      simp at h
      subst h
      rw [List.getElem?_append_left (by rw [hl]; omega)]
      simp
    | succ i =>
      rw [List.getElem?_append_right (by rw [hl]; omega), hl, show (i + 1) * 4 + j - 4 = i * 4 + j by omega]
      exact ih i p (by simpa using h) j hj
theorem psAt_own {w : World} {B g c n : Nat} {ps : List Pc} (h : w.ownsRow B 82 4 (.slice (some ⟨g, 0, none⟩) n c) ps.length (pcells ps)) : PsAt w g 0 ps := fun i p hp j v hv => by
  have hj : j < 4 := by
    have := (List.getElem?_eq_some_iff.1 hv).1
    exact this
  have := h.cells (g := g) rfl (i * 4 + j) v (by rw [pcells_at ps i p hp j hj]; exact hv)
  rw [Addr.add_lit, Nat.zero_add] at this
  show w.cell? ⟨g, 0 + i * 4 + j, none⟩ = _
  rw [Nat.zero_add]
  exact this
theorem PsAt.drop {w : World} {g o : Nat} {ps : List Pc} (h : PsAt w g o ps) (k : Nat) : PsAt w g (o + k * 4) (ps.drop k) := fun i p hp => by
  have := h (k + i) p (by rw [List.getElem?_drop] at hp; exact hp)
  rw [show o + k * 4 + i * 4 = o + (k + i) * 4 by omega]
  exact this
set_option maxHeartbeats 4000000 in
theorem kind_is (k : Int) (s : ByteArray) (n x : Int) (w : World) : Calls Tryz.prog 89 #[.agg #[.int .i64 k, .string s, .int .i64 n, .bool false], .int .i64 x] w fun e w' => e = .returned (.bool (k == x)) ∧ Kept (fun _ => False) w w' := by
  have hk : Kept (fun _ => False) w (w.alloc (.cells #[.int .i64 k, .string s, .int .i64 n, .bool false] 82)) := (Kept.refl _ _).alloc _
  have c0 := cell_block _ _ 0 _ _ _ (heap_alloc_new w (.cells #[.int .i64 k, .string s, .int .i64 n, .bool false] 82))
  have HK := hid_of hk
  clear hk
  go_enter Tryz.func89, Tryz.ntmps89
  go_wp2
  go_ret
  exact ⟨rfl, HK.out⟩
set_option maxHeartbeats 4000000 in
theorem far_is (k : Int) (s : ByteArray) (n : Int) (w : World) : Calls Tryz.prog 93 #[.agg #[.int .i64 k, .string s, .int .i64 n, .bool false]] w fun e w' => e = .returned (.bool false) ∧ Kept (fun _ => False) w w' := by
  have hk : Kept (fun _ => False) w (w.alloc (.cells #[.int .i64 k, .string s, .int .i64 n, .bool false] 82)) := (Kept.refl _ _).alloc _
  have c0 := cell_block _ _ 3 _ _ _ (heap_alloc_new w (.cells #[.int .i64 k, .string s, .int .i64 n, .bool false] 82))
  have HK := hid_of hk
  clear hk
  go_enter Tryz.func93, Tryz.ntmps93
  go_wp2
  go_ret
  exact ⟨rfl, HK.out⟩
theorem take_snoc1 {α : Type} (l : List α) (k : Nat) (h : k < l.length) : l.take (k + 1) = l.take k ++ [l[k]] := by
  rw [List.take_add_one, List.getElem?_eq_getElem h]
  rfl
set_option maxHeartbeats 8000000 in
theorem eqf_any (g o n c gk m ck : Nat) (ps : List Pc) (ks : List Int) (w : World) (hP : PsAt w g o ps) (hK : ∀ i x, ks[i]? = some x → w.cell? ⟨gk, i, none⟩ = some (.int .i64 x)) (hn : n = ps.length) (hm : m = ks.length) (hl : n ≤ 90000) (hl2 : m ≤ 90000) :
    Calls Tryz.prog 88 #[.slice (some ⟨g, o, none⟩) n c, .slice (some ⟨gk, 0, none⟩) m ck, .func (.func 89) #[] #[]] w fun e w' => e = .returned (.bool (decide (ps.map Pc.k = ks))) ∧ Kept (fun _ => False) w w' := by
  have HP := hid_of hP
  have HKS := hid_of hK
  have HN := hid_of hn
  have HM := hid_of hm
  by_cases hnm : n = m
  · subst hnm
    clear hP hK hn hm hl2
    go_enter Tryz.func88, Tryz.ntmps88
    go_wp2_with fail
    go_loopw [17] (fun iv wr => ∃ k : Nat, k ≤ n ∧ iv = .int .i64 (k : Int) ∧ Hid (Kept (fun _ => False) w wr) ∧ Hid ((ps.take k).map Pc.k = ks.take k)) (fun iv _ => n - (intOf iv).toNat)
    case atStart => exact ⟨0, by omega, rfl, Kept.refl _ _, by simp [Hid]⟩
    case round =>
      obtain ⟨k, hk, rfl, HK, HE⟩ := hrel
      by_cases hlt : k < n
      · have hltI : (k : Int) < (n : Int) := by omega
        have hkp : k < ps.length := by rw [← HN.out]; exact hlt
        have hkk : k < ks.length := by rw [← HM.out]; exact hlt
        have hrg0 := (HP.out.kept HK.out (fun f => f)) k ps[k] (List.getElem?_eq_getElem hkp)
        have q1 := HK.out.cell (HKS.out k ks[k] (List.getElem?_eq_getElem hkk)) (fun f => f)
        have HS : Hid ((ps.take (k + 1)).map Pc.k = (ps.take k).map Pc.k ++ [ps[k].k] ∧ ks.take (k + 1) = ks.take k ++ [ks[k]]) := by
          unfold Hid
          rw [take_snoc1 ps k hkp, take_snoc1 ks k hkk, List.map_append]
          exact ⟨rfl, rfl⟩
        have HNE : Hid (ps[k].k ≠ ks[k] → ps.map Pc.k ≠ ks) := fun hne e => hne (by
          have := congrArg (fun l => l[k]?) e
          simp [List.getElem?_eq_getElem hkp, List.getElem?_eq_getElem hkk] at this
          exact this)
        generalize hpk : ps[k] = p at *
        generalize hxk : ks[k] = x at *
        clear hpk hxk hkp hkk
        obtain ⟨pk, pt, pn⟩ := p
        have hrg : wr.rangeAt g (o + k * 4) [.int .i64 pk, .string pt, .int .i64 pn, .bool false] := hrg0
        have r0 := hrg 0 _ rfl
        have r1 := hrg 1 _ rfl
        have r2 := hrg 2 _ rfl
        have r3 := hrg 3 _ rfl
        simp only [Nat.add_zero] at r0
        have hka : Kept (fun _ => False) wr (wr.alloc (.cells #[.int .i64 pk, .string pt, .int .i64 pn, .bool false] 82)) := (Kept.refl _ _).alloc _
        have HB := hid_of (heap_alloc_new wr (.cells #[.int .i64 pk, .string pt, .int .i64 pn, .bool false] 82))
        have q2 := hka.cell q1 (fun f => f)
        have HKA := hid_of (HK.out.trans hka)
        clear hrg0 hrg hka q1
        go_upto_region 6 with fail
        clear r0 r1 r2 r3
        generalize wr.alloc (.cells #[.int .i64 pk, .string pt, .int .i64 pn, .bool false] 82) = W1 at *
        generalize wr.heap.size = gx at *
        obtain ⟨c0, c1, c2, c3, _⟩ := look4 HB.out
        have HC := hid_of (kind_is pk pt pn x W1)
        go_wp2_with fail
        refine HC.out.mono ?_
        rintro e W2 ⟨rfl, hk2⟩
        have HK2 := hid_of (HKA.out.trans hk2)
        clear hk2 HC HKA HK HB c0 c1 c2 c3 q2
        by_cases hpx : pk = x
        · have hb : (pk == x) = true := by simp [hpx]
          rw [hb]
          have HE2 : Hid ((ps.take (k + 1)).map Pc.k = ks.take (k + 1)) := by
            unfold Hid
            rw [HS.out.1, HS.out.2, HE.out, hpx]
          clear hb hpx
          go_wp2
          go_roundw
          case rel => exact ⟨k + 1, by omega, by go_num, HK2, HE2⟩
          case measure => simp [intOf]; omega
        · have hb : (pk == x) = false := by simp [hpx]
          rw [hb]
          have HR : Hid (decide (ps.map Pc.k = ks) = false) := decide_eq_false (HNE.out hpx)
          clear hb hpx
          go_wp2
          go_ret
          exact ⟨by rw [HR.out]; rfl, HK2.out⟩
      · have e : k = n := by omega
        subst e
        have HR : Hid (decide (ps.map Pc.k = ks) = true) := by
          unfold Hid
          apply decide_eq_true
          have := HE.out
          rw [List.take_of_length_le (by rw [← HN.out]; omega), List.take_of_length_le (by rw [← HM.out]; omega)] at this
          exact this
        have hkI : ¬ ((k : Int) < (k : Int)) := by omega
        go_wp2
        go_ret
        exact ⟨by rw [HR.out]; rfl, HK.out⟩
  · have hbq : ((n : Int) != (m : Int)) = true := by simp; omega
    have HR : Hid (decide (ps.map Pc.k = ks) = false) := by
      unfold Hid
      apply decide_eq_false
      intro e
      have := congrArg List.length e
      rw [List.length_map] at this
      omega
    clear hP hK hn hm hnm
    go_enter Tryz.func88, Tryz.ntmps88
    go_wp2
    go_ret
    exact ⟨by rw [HR.out]; rfl, Kept.refl _ _⟩
set_option maxHeartbeats 4000000 in
theorem fits_any (g o n c gk m ck : Nat) (ps : List Pc) (ks : List Int) (w : World) (hP : PsAt w g o ps) (hK : ∀ i x, ks[i]? = some x → w.cell? ⟨gk, i, none⟩ = some (.int .i64 x)) (hn : n = ps.length) (hm : m = ks.length) (hl : n ≤ 90000) (hl2 : m ≤ 90000) :
    Calls Tryz.prog 54 #[.slice (some ⟨g, o, none⟩) n c, .slice (some ⟨gk, 0, none⟩) m ck] w fun e w' => e = .returned (.bool (decide (ps.map Pc.k = ks))) ∧ Kept (fun _ => False) w w' := by
  have HC := hid_of (eqf_any g o n c gk m ck ps ks w hP hK hn hm hl hl2)
  generalize decide (ps.map Pc.k = ks) = q at *
  clear hP hK hn hm hl hl2
  go_enter Tryz.func54, Tryz.ntmps54
  go_wp2_with fail
  refine HC.out.mono ?_
  rintro e W2 ⟨rfl, hk2⟩
  have HK2 := hid_of hk2
  clear hk2 HC
  go_wp2
  go_ret
  exact ⟨rfl, HK2.out⟩
set_option maxHeartbeats 8000000 in
theorem index_far (g o n c : Nat) (ps : List Pc) (w : World) (hP : PsAt w g o ps) (hn : n = ps.length) (hl : n ≤ 90000) :
    Calls Tryz.prog 120 #[.slice (some ⟨g, o, none⟩) n c, .func (.func 93) #[] #[]] w fun e w' => e = .returned (.int .i64 (-1)) ∧ Kept (fun _ => False) w w' := by
  have HP := hid_of hP
  have HN := hid_of hn
  clear hP hn
  go_enter Tryz.func120, Tryz.ntmps120
  go_wp2_with fail
  go_loopw [8] (fun iv wr => ∃ k : Nat, k ≤ n ∧ iv = .int .i64 (k : Int) ∧ Hid (Kept (fun _ => False) w wr)) (fun iv _ => n - (intOf iv).toNat)
  case atStart => exact ⟨0, by omega, rfl, Kept.refl _ _⟩
  case round =>
    obtain ⟨k, hk, rfl, HK⟩ := hrel
    by_cases hlt : k < n
    · have hltI : (k : Int) < (n : Int) := by omega
      have hkp : k < ps.length := by rw [← HN.out]; exact hlt
      have hrg0 := (HP.out.kept HK.out (fun f => f)) k ps[k] (List.getElem?_eq_getElem hkp)
      generalize hpk : ps[k] = p at *
      clear hpk hkp
      obtain ⟨pk, pt, pn⟩ := p
      have hrg : wr.rangeAt g (o + k * 4) [.int .i64 pk, .string pt, .int .i64 pn, .bool false] := hrg0
      have r0 := hrg 0 _ rfl
      have r1 := hrg 1 _ rfl
      have r2 := hrg 2 _ rfl
      have r3 := hrg 3 _ rfl
      simp only [Nat.add_zero] at r0
      have HC := hid_of (far_is pk pt pn wr)
      clear hrg0 hrg
      go_wp2_with fail
      refine HC.out.mono ?_
      rintro e W2 ⟨rfl, hk2⟩
      have HK2 := hid_of (HK.out.trans hk2)
      clear hk2 HC HK r0 r1 r2 r3
      go_wp2
      go_roundw
      case rel => exact ⟨k + 1, by omega, by go_num, HK2⟩
      case measure => simp [intOf]; omega
    · have e : k = n := by omega
      subst e
      have hkI : ¬ ((k : Int) < (k : Int)) := by omega
      go_wp2
      go_ret
      exact ⟨rfl, HK.out⟩
set_option maxHeartbeats 4000000 in
theorem far_any (g o n c : Nat) (ps : List Pc) (w : World) (hP : PsAt w g o ps) (hn : n = ps.length) (hl : n ≤ 90000) :
    Calls Tryz.prog 57 #[.slice (some ⟨g, o, none⟩) n c] w fun e w' => e = .returned (.bool false) ∧ Kept (fun _ => False) w w' := by
  have HC := hid_of (index_far g o n c ps w hP hn hl)
  clear hP hn hl
  go_enter Tryz.func57, Tryz.ntmps57
  go_wp2_with fail
  go_enter Tryz.func92, Tryz.ntmps92
  go_wp2_with fail
  refine HC.out.mono ?_
  rintro e W2 ⟨rfl, hk2⟩
  have HK2 := hid_of hk2
  clear hk2 HC
  go_wp2
  go_ret
  exact ⟨rfl, HK2.out⟩
set_option maxHeartbeats 8000000 in
theorem labelled_none (g o n c : Nat) (ps : List Pc) (w : World) (hP : PsAt w g o ps) (hn : n = ps.length) (hl : n ≤ 90000) (hc : n ≤ c) (hno : (ps.take 2).map Pc.k ≠ [0, 3]) :
    Calls Tryz.prog 32 #[.slice (some ⟨g, o, none⟩) n c] w fun e w' => e = .returned (.tuple #[.slice none 0 0, .slice (some ⟨g, o, none⟩) n c]) ∧ Kept (fun _ => False) w w' := by
  have HP := hid_of hP
  have HN := hid_of hn
  have HNO := hid_of hno
  clear hP hn hno
  go_enter Tryz.func32, Tryz.ntmps32
  go_wp2_with fail
  go_loopw [0, 4] (fun lv bv wr => lv = .slice (some ⟨g, o, none⟩) n c ∧ bv = .slice none 0 0 ∧ wr = w) (fun _ _ _ => 0)
  case atStart => exact ⟨rfl, rfl, rfl⟩
  case round =>
    obtain ⟨rfl, rfl, hw⟩ := hrel
    have hw := hw.symm
    subst hw
    by_cases h1 : 1 < n
    · have h1I : (1 : Int) < (n : Int) := by omega
      have hka : Kept (fun _ => False) w (w.alloc (.cells #[.int .i64 0, .int .i64 3] 3)) := (Kept.refl _ _).alloc _
      have hba := heap_alloc_new w (.cells #[.int .i64 0, .int .i64 3] 3)
      have HF := hid_of (fits_any g o 2 c w.heap.size 2 2 (ps.take 2) [0, 3] (w.alloc (.cells #[.int .i64 0, .int .i64 3] 3)) (fun i p hp => (HP.out.kept hka (fun f => f)) i p (by
        rw [List.getElem?_take] at hp
        split at hp
        · exact hp
        · cases hp)) (fun i x hx => by
        rw [cell_block _ _ i _ _ _ hba]
        rcases i with _ | _ | i <;> simp at hx ⊢ <;> exact hx) (by rw [List.length_take]; have := HN.out; omega) rfl (by omega) (by omega))
      rw [decide_eq_false HNO.out] at HF
      have HKA := hid_of hka
      have h2c : (2 : Int) ≤ (c : Int) := by omega
      clear hba hka
      go_wp2_with fail
      refine HF.out.mono ?_
      rintro e W2 ⟨rfl, hk2⟩
      have HK2 := hid_of (HKA.out.trans hk2)
      clear hk2 HF HKA
      go_wp2
      refine bodyPost_ret (results_tmp2 rfl _ _ _) rfl ?_
      exact ⟨rfl, HK2.out⟩
    · have h1I : ¬ ((1 : Int) < (n : Int)) := by omega
      go_wp2
      refine bodyPost_ret (results_tmp2 rfl _ _ _) rfl ?_
      exact ⟨rfl, Kept.refl _ _⟩
end Go.Proofs.YtkilngknklpadaaGreatDoor

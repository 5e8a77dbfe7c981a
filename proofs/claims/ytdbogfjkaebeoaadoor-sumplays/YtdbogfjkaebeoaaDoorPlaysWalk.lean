/-
  The walk of SumPlays.
-/
import Derived.Test.YtdbogfjkaebeoaaDoorPlays
namespace Go.Proofs.YtdbogfjkaebeoaaDoor
open Go.RowKit
set_option linter.unusedVariables false
set_option linter.unusedSimpArgs false

/-- A script's steps as they lie. -/
def Steps (w : World) (ao : Option Addr) (n : Nat) (who kind : Nat → Int) (dv : Nat → Value) (dl : Nat → List Int) : Prop :=
  ∀ i, i < n → ∃ b o, ao = some ⟨b, o, none⟩ ∧ w.cell? ⟨b, o + i * 3, none⟩ = some (.int .i64 (who i)) ∧ w.cell? ⟨b, o + i * 3 + 1, none⟩ = some (.int .i64 (kind i)) ∧ w.cell? ⟨b, o + i * 3 + 2, none⟩ = some (dv i) ∧ BIn w (dv i) (dl i) ∧
    (∀ x ∈ dl i, 0 ≤ x ∧ x < 256) ∧ -9223372036854775808 ≤ who i ∧ who i ≤ 9223372036854775807 ∧ (dl i).length ≤ 140737488351232
def lsOf (dl : Nat → List Int) (n : Nat) : List (List Int) := (List.range n).map dl
theorem lsOf_length (dl : Nat → List Int) (n : Nat) : (lsOf dl n).length = n := by simp [lsOf]
theorem lsOf_at (dl : Nat → List Int) (n i : Nat) (h : i < n) : (lsOf dl n).getD i [] = dl i := by simp [lsOf, List.getD, h]
def vsOf (dv : Nat → Value) (n : Nat) : List Value := (List.range n).map dv
theorem vsOf_succ (dv : Nat → Value) (n : Nat) : vsOf dv (n + 1) = vsOf dv n ++ [dv n] := by simp [vsOf, List.range_succ]
theorem vsOf_at (dv : Nat → Value) (n i : Nat) (h : i < n) : (vsOf dv n).getD i undef = dv i := by simp [vsOf, List.getD, h]
theorem bin_one {w : World} {v : Value} {xs : List Int} (h : BIn w v xs) : v.oneCell' = true := by
  obtain ⟨ao, c, rfl, _⟩ := h
  rfl

theorem step_app {P : Program} {w : World} {ops : Array Oper} {o : Oper} {a : Act} {K : Act → World → Prop} {Q : Exit → Act → World → Prop} {E : Prop} (hg : o.guard = none) (s x : Operand) (t u : TypeId)
    (ho : o.op = .call { callee := .builtin .append, args := #[s, x], argTypes := #[t, u] }) (v bv : Value) (hs : a.eval s = v) (hx : a.eval x = bv) (v' : Value) (w' : World)
    (hr : (Builtin.append_ #[t, u] o.type #[v, bv]).run P w = .ok v' w') (h : K (a.put o.dst v') w') :
    if Region.wanted o (yielded ops a.tmps) = true then Oper.wp P o a w K Q else E := by
  have hw : Region.wanted o (yielded ops a.tmps) = true := by simp [Region.wanted, hg]
  rw [if_pos hw]
  unfold Oper.wp
  simp [execOp, ho, resolve, invoke, builtin, hs, hx, hr, Result.andThen]
  exact h
/-- append of bytes onto a row of one's own, and where it lies then. -/
theorem app_at (W : World) (v : Value) (n base : Nat) (l : List Int) (ty : TypeId) (bv : Value) (xs : List Int) (hown : W.ownsRow base 5 1 v n (l.map (Value.int .u8))) (hx : BIn W bv xs) (hb : base ≤ W.heap.size) (hsz : n + xs.length ≤ 140737488355328) :
    ∃ v' w', (Builtin.append_ #[25, 25] ty #[v, bv]).run Tryd.prog W = .ok v' w' ∧ w'.ownsRow base 5 1 v' (n + xs.length) ((l ++ xs).map (Value.int .u8)) ∧ W.grownBy w' v.ownBlock ∧ (v'.ownBlock = v.ownBlock ∨ v'.ownBlock = some W.heap.size) := by
  obtain ⟨i0, hi, hz0, hz1, hz2⟩ := info_parts info5
  have key : ∀ (p : Addr) (c : Nat), (∀ j u, (xs.map (Value.int .u8))[j]? = some u → W.cell? (p.add j) = some u) → ∃ v' w', (Builtin.append_ #[25, 25] ty #[v, .slice (some p) xs.length c]).run Tryd.prog W = .ok v' w' ∧ w'.ownsRow base 5 1 v' (n + xs.length) ((l ++ xs).map (Value.int .u8)) ∧ W.grownBy w' v.ownBlock ∧ (v'.ownBlock = v.ownBlock ∨ v'.ownBlock = some W.heap.size) := by
    intro p c hc
    obtain ⟨v', w', hr, h2, h3, _, h5⟩ := run_append_own_at (P := Tryd.prog) W base 25 ty 5 i0 (.int .u8 0) 1 1 Tryd.underlying25 hi hz0 hz1 hz2 rfl (by decide) v n _ hown p xs.length c (xs.map (Value.int .u8)) (by simp) hc (map1 xs) (by unfold maxLen; omega) (by omega) hb
    exact ⟨v', w', hr, by rw [List.map_append]; exact h2, h3, h5⟩
  obtain ⟨ao, c, rfl, hc, hx⟩ := hx
  cases ao with
  | none =>
    have e : xs = [] := by
      rcases hx with h | ⟨b, o, h, _⟩
      · exact h
      · cases h
    subst e
    exact ⟨v, W, app_nil W v n base _ ty c hown, by simpa using hown, ⟨rfl, rfl, rfl, Nat.le_refl _, fun _ _ _ => rfl⟩, .inl rfl⟩
  | some p =>
    refine key p c ?_
    rcases hx with rfl | ⟨b, o, h, hx⟩
    · intro j u hj
      simp at hj
    · cases h
      exact mapc hx
theorem lent_bat {w : World} {g h : Nat} {xs : List Int} {j : Nat} (hl : Lent w g xs j) (hne : g ≠ h) : BAt w (.slice (some ⟨g, 0, none⟩) xs.length (xs.length + 67)) xs h :=
  .inr ⟨g, 0, _, rfl, by omega, hne, fun i hi => by rw [Nat.zero_add]; exact hl.at hi⟩
theorem Plays.apart {w wr w' : World} {B gl ga g : Nat} {hf : Nat → Nat} {av : Nat → Value} {xf : Nat → List Int} (h : Plays w wr B gl ga hf av xf) (hk : Kept (fun j => j = g) wr w') (hB : B ≤ g) (hh : ∀ i, i < 3 → hf i ≠ g ∧ (av i).ownBlock ≠ some g) : Plays w w' B gl ga hf av xf := by
  have hb := h.bnd
  exact ⟨(hk.block _ (heap_lt h.lrow) (by omega)).trans h.lrow, (hk.block _ (heap_lt h.arow) (by omega)).trans h.arow, fun i hi => (h.hash i hi).keep hk (hh i hi).1, fun i hi => hk.ownsRow (h.own i hi) (fun g' hg' e => (hh i hi).2 (by rw [hg', e])), h.lo, h.hne, h.one, h.onh, h.kept.step hk (fun i hi e => by omega), ⟨hb.1, hb.2.1, hb.2.2.1, Nat.le_trans hb.2.2.2 hk.size⟩⟩

set_option maxRecDepth 100000 in
set_option maxHeartbeats 40000000 in
theorem sumPlays_walk (ao : Option Addr) (n c : Nat) (who kind : Nat → Int) (dv : Nat → Value) (dl : Nat → List Int) (w : World) (hS : Steps w ao n who kind dv dl) (hL : Laid w) (hn : n * 40 ≤ 140737488351232) :
    Calls Tryd.prog 4 #[.slice ao n c] w fun e w' => e = .returned (.bool true) ∧ Kept (fun _ => False) w w' := by
  have HKN := hid_of (known_any w hL)
  have HS := hid_of hS
  have HL := hid_of hL
  clear hS hL
  go_enter Tryd.func4, Tryd.ntmps4
  go_wp2_with fail
  refine HKN.out.mono ?_
  rintro e w1 ⟨rfl, hk1⟩
  have HK1 := hid_of hk1
  clear hk1 HKN
  go_wp2_with fail
  go_loopw [3, 4] (fun v i wr => ∃ k : Nat, k ≤ n ∧ i = .int .i64 k ∧ wr.ownsRow w.heap.size 25 1 v k (vsOf dv k) ∧ Kept (fun j => w.heap.size ≤ j) w wr) (fun _ i _ => n - (intOf i).toNat)
  case atStart => exact ⟨0, by omega, rfl, World.ownsRow_nil _ _ _ _, HK1.out.mono (fun _ _ f => f.elim)⟩
  case round =>
    obtain ⟨k, hk, rfl, hO, hK⟩ := hrel
    by_cases hlt : k < n
    · have hkI : (k : Int) < (n : Int) := by omega
      obtain ⟨b, o, rfl, _, _, hc2, hB, _⟩ := HS.out k hlt
      have hcc := hK.cell hc2 (by have := World.block_lt_of_cell? w _ hc2; simp only at this; show ¬ (w.heap.size ≤ b); omega)
      obtain ⟨v', wa, hra, hoa, ⟨ga, capa, rfl⟩, hka, _⟩ := app_part wr _ k w.heap.size (vsOf dv k) (dv k) (bin_one hB) hO hK.size (by omega)
      rw [← vsOf_succ] at hoa
      have HOA := hid_of hoa
      have HKA := hid_of (hK.trans hka)
      obtain ⟨a', c', hdv⟩ : ∃ a' c', dv k = .slice a' (dl k).length c' := by
        obtain ⟨a', c', h, _⟩ := hB
        exact ⟨a', c', h⟩
      rw [hdv] at hcc hra
      clear hO hK hc2 hB hoa hka hdv
      generalize (dl k).length = q at *
      go_wp2_with (refine wp_app rfl (.tmp 22) (.tmp 28) 22 22 ?_ _ _ rfl rfl (.slice (some ⟨ga, 0, none⟩) (k + 1) capa) wa ?_ ?_; rfl; exact hra)
      go_roundw
      case rel => exact ⟨k + 1, by omega, by go_num, HOA.out, HKA.out⟩
      case measure => simp [intOf]; omega
    · obtain rfl : k = n := by omega
      have HPI : Hid (PIn wr u3 (lsOf dl k)) := pin_own hO (lsOf_length _ _) (fun i hi => by
        rw [vsOf_at _ _ _ hi, lsOf_at _ _ _ hi]
        obtain ⟨b, o, _, _, _, _, hB, _⟩ := HS.out i hi
        exact hB.kept hK (fun j hj => by omega))
      have HK2 : Hid (Kept (fun _ => False) w wr) := ⟨hK.os, hK.tape, hK.output, hK.size, fun i hi hn => hK.block i hi (by omega)⟩
      have hby := beyond_any u3 (lsOf dl k) wr HPI.out (by rw [lsOf_length]; omega) (fun l hl => by
        obtain ⟨i, hi, rfl⟩ := List.mem_map.1 hl
        obtain ⟨b, o, _, _, _, _, _, _, _, _, h⟩ := HS.out i (List.mem_range.1 hi)
        omega)
      have HBY := hid_of hby
      clear hO hK hby HK1
      go_wp2_with fail
      refine HBY.out.mono ?_
      rintro e w' ⟨rfl, rfl⟩
      clear HBY HPI
      by_cases hT : 2147483647 < (lsOf dl k).flatten.length
      · rw [decide_eq_true hT]
        clear hT
        go_wp2
        go_ret
        exact ⟨rfl, HK2.out⟩
      · rw [decide_eq_false hT]
        have HT : Hid ((lsOf dl k).flatten.length ≤ 2147483647) := Nat.le_of_not_lt hT
        clear hT
        go_wp2_with fail
        have HL0 : Hid (((w'.alloc (.cells #[.pointer none, .pointer none, .pointer none] 39)).alloc (.cells #[.slice none 0 0, .slice none 0 0, .slice none 0 0] 40)).heap[w'.heap.size]? = some (.cells (row3 (fun i => if i < 0 then .pointer (some ⟨0, 0, none⟩) else .pointer none)) 39 (0, 0))) := alloc_old (alloc_new _ _ rfl)
        have HA0 : Hid (((w'.alloc (.cells #[.pointer none, .pointer none, .pointer none] 39)).alloc (.cells #[.slice none 0 0, .slice none 0 0, .slice none 0 0] 40)).heap[w'.heap.size + 1]? = some (.cells (row3 (fun _ => .slice none 0 0)) 40 (0, 0))) := alloc_new _ _ (by simp)
        have HK0 : Hid (Kept (fun _ => False) w ((w'.alloc (.cells #[.pointer none, .pointer none, .pointer none] 39)).alloc (.cells #[.slice none 0 0, .slice none 0 0, .slice none 0 0] 40))) := (HK2.out.alloc _).alloc _
        have HZ0 : Hid (w'.heap.size + 2 ≤ ((w'.alloc (.cells #[.pointer none, .pointer none, .pointer none] 39)).alloc (.cells #[.slice none 0 0, .slice none 0 0, .slice none 0 0] 40)).heap.size) := by show _ ≤ _; simp
        have hgl : w.heap.size ≤ w'.heap.size := HK2.out.size
        clear HK2
        generalize (w'.alloc (.cells #[.pointer none, .pointer none, .pointer none] 39)).alloc (.cells #[.slice none 0 0, .slice none 0 0, .slice none 0 0] 40) = wA at *
        generalize w'.heap.size = gl at *
        generalize hnk : k = n' at *
        clear hnk
        go_loopw [7] (fun i wr => ∃ (k : Nat) (hf : Nat → Nat), k ≤ 3 ∧ i = .int .i64 k ∧ wr.heap[gl]? = some (.cells (row3 (fun i => if i < k then .pointer (some ⟨hf i, 0, none⟩) else .pointer none)) 39 (0, 0)) ∧ wr.heap[gl + 1]? = some (.cells (row3 (fun _ => .slice none 0 0)) 40 (0, 0)) ∧ (∀ i, i < k → HashAt wr (hf i) [] ∧ gl + 2 ≤ hf i) ∧ (∀ i j, i < j → j < k → hf i < hf j) ∧ Kept (fun _ => False) w wr ∧ gl + 2 ≤ wr.heap.size) (fun i _ => 3 - (intOf i).toNat)
        case atStart => exact ⟨0, fun _ => 0, by omega, rfl, HL0.out, HA0.out, fun i hi => absurd hi (by omega), fun i j _ hj => absurd hj (by omega), HK0.out, HZ0.out⟩
        case round =>
          clear HL0 HA0 HK0 HZ0
          obtain ⟨k, hf, hk, rfl, hLr, hAr, hH, hU, hK, hZ⟩ := hrel
          by_cases hlt : k < 3
          · have hkI : (k : Int) < 3 := by omega
            have hc0 : wr.cell? ⟨gl, k, none⟩ = some (.pointer none) := by
              rw [cell_block _ _ _ _ _ _ hLr, row3_at _ _ hlt, if_neg (by omega)]
            have hf0 : wr.frozen? ⟨gl, k, none⟩ = false := frozen_block _ _ _ _ _ hLr
            have hKa : Kept (fun _ => False) wr (wr.alloc (.cells zero51 51 (0, 0))) := (Kept.refl _ wr).alloc _
            have hc1 := hKa.cell hc0 (fun f => f)
            have hf1 := frz hKa hc0 hf0
            have HL1 : Hid (((wr.alloc (.cells zero51 51 (0, 0))).setCell ⟨gl, k, none⟩ (.pointer (some ⟨wr.heap.size, 0, none⟩))).heap[gl]? = some (.cells (row3 (fun i => if i < k + 1 then .pointer (some ⟨put3 hf k wr.heap.size i, 0, none⟩) else .pointer none)) 39 (0, 0))) := by
              show _ = _
              rw [set_block _ _ _ _ _ _ (alloc_old hLr), row3_set _ _ hlt]
              congr 2
              refine row3_put (fun i hi => ?_)
              by_cases e : i = k
              · subst e
                simp [put3_at]
              · rw [put3_ne _ _ _ _ e, put3_ne _ _ _ _ e]
                by_cases h : i < k
                · rw [if_pos h, if_pos (by omega)]
                · rw [if_neg h, if_neg (by omega)]
            have hKs := kept_set (wr.alloc (.cells zero51 51 (0, 0))) ⟨gl, k, none⟩ (.pointer (some ⟨wr.heap.size, 0, none⟩))
            have HA1 : Hid (((wr.alloc (.cells zero51 51 (0, 0))).setCell ⟨gl, k, none⟩ (.pointer (some ⟨wr.heap.size, 0, none⟩))).heap[gl + 1]? = some (.cells (row3 (fun _ => .slice none 0 0)) 40 (0, 0))) := (hKs.block _ (heap_lt (alloc_old hAr)) (by show ¬ (gl + 1 = gl); omega)).trans (alloc_old hAr)
            have HH1 : Hid (∀ i, i < k + 1 → HashAt ((wr.alloc (.cells zero51 51 (0, 0))).setCell ⟨gl, k, none⟩ (.pointer (some ⟨wr.heap.size, 0, none⟩))) (put3 hf k wr.heap.size i) [] ∧ gl + 2 ≤ put3 hf k wr.heap.size i) := fun i hi => by
              by_cases e : i = k
              · subst e
                rw [put3_at]
                exact ⟨(zero_is (alloc_new _ _ rfl)).keep hKs (by show ¬ (wr.heap.size = gl); omega), hZ⟩
              · rw [put3_ne _ _ _ _ e]
                obtain ⟨h1, h2⟩ := hH i (by omega)
                exact ⟨(h1.keep hKa (fun f => f)).keep hKs (by show ¬ (hf i = gl); omega), h2⟩
            have HU1 : Hid (∀ i j, i < j → j < k + 1 → put3 hf k wr.heap.size i < put3 hf k wr.heap.size j) := fun i j hij hj => by
              rw [put3_ne _ _ i _ (by omega)]
              by_cases e : j = k
              · subst e
                rw [put3_at]
                exact (hH i hij).1.lt
              · rw [put3_ne _ _ _ _ e]
                exact hU i j hij (by omega)
            have HK1 : Hid (Kept (fun _ => False) w ((wr.alloc (.cells zero51 51 (0, 0))).setCell ⟨gl, k, none⟩ (.pointer (some ⟨wr.heap.size, 0, none⟩)))) := (hK.alloc _).setCell (.inl hgl) _
            have HZ1 : Hid (gl + 2 ≤ ((wr.alloc (.cells zero51 51 (0, 0))).setCell ⟨gl, k, none⟩ (.pointer (some ⟨wr.heap.size, 0, none⟩))).heap.size) := by
              show _ ≤ _
              simp [World.setCell]
              omega
            clear hLr hAr hH hU hK hZ hc0 hf0 hKa hKs
            go_wp2_with fail
            refine (new_any _).mono ?_
            rintro e w2 ⟨rfl, rfl⟩
            generalize wr.alloc (.cells zero51 51 (0, 0)) = wz at *
            go_wp2
            go_roundw
            case rel => exact ⟨k + 1, _, by omega, by go_num, HL1.out, HA1.out, HH1.out, HU1.out, HK1.out, HZ1.out⟩
            case measure => simp [intOf]; omega
          · obtain rfl : k = 3 := by omega
            have HP : Hid (Plays w wr (gl + 2) gl (gl + 1) hf (fun _ => .slice none 0 0) (fun _ => [])) := by
              refine ⟨?_, hAr, fun i hi => (hH i hi).1, fun i hi => World.ownsRow_nil _ _ _ _, fun i hi => (hH i hi).2, fun i j hi hj e => ?_, fun i j _ _ _ g h => (by cases h), fun i j _ _ h => (by cases h), hK, ⟨hgl, by omega, by omega, hZ⟩⟩
              · rw [hLr]
                congr 2
              · rcases Nat.lt_or_gt_of_ne e with h | h
                · have := hU i j h hj
                  omega
                · have := hU j i h hi
                  omega
            clear hLr hAr hH hU hK hZ
            go_wp2_with fail
            rw [show ((3 : Nat) : Int) = 3 from rfl]
            go_loopw [8] (fun i wr => ∃ (j : Nat) (hf : Nat → Nat) (av : Nat → Value) (xf : Nat → List Int), j ≤ n' ∧ i = .int .i64 j ∧ Plays w wr (gl + 2) gl (gl + 1) hf av xf ∧ ∀ i, i < 3 → (xf i).length ≤ tot (lsOf dl n') j ∧ ∀ x ∈ xf i, 0 ≤ x ∧ x < 256) (fun i _ => n' - (intOf i).toNat)
            case atStart => exact ⟨0, _, _, _, by omega, rfl, HP.out, fun i hi => ⟨Nat.zero_le _, fun x hx => (by cases hx)⟩⟩
            case round =>
              clear HP
              obtain ⟨j, hf, av, xf, hj, rfl, hP, hX⟩ := hrel
              by_cases hjt : j < n'
              · have hjI : (j : Int) < (n' : Int) := by omega
                obtain ⟨b, o, rfl, hw0, hw1, hw2, hB, hrr, hlo, hhi, _⟩ := HS.out j hjt
                have c0 := hP.kept.cell hw0 (fun f => f)
                have c1 := hP.kept.cell hw1 (fun f => f)
                have c2 := hP.kept.cell hw2 (fun f => f)
                obtain ⟨a', c', hdv⟩ : ∃ a' c', dv j = .slice a' (dl j).length c' := by
                  obtain ⟨a', c', h, _⟩ := hB
                  exact ⟨a', c', h⟩
                rw [hdv] at c2 hB
                have hrd := fun W => round_any (who j) 3 W hlo hhi (by decide) (by decide)
                obtain ⟨k, hk0⟩ : ∃ k : Nat, who j % 3 = (k : Int) := ⟨(who j % 3).toNat, by have := Int.emod_nonneg (who j) (show (3 : Int) ≠ 0 by decide); omega⟩
                have hk : k < 3 := by have := Int.emod_lt_of_pos (who j) (show (0 : Int) < 3 by decide); omega
                rw [hk0] at hrd
                have hkI : (k : Int) < 3 := by omega
                have hts := tot_step (lsOf dl n') j (by rw [lsOf_length]; exact hjt)
                rw [lsOf_at _ _ _ hjt] at hts
                have htl := tot_le (lsOf dl n') (j + 1)
                have HTS := hid_of hts
                have HTL := hid_of htl
                have HRD := hid_of hrd
                have HB := hid_of hB
                have HRR := hid_of hrr
                have HPL := hid_of hP
                have HXX := hid_of hX
                clear hw0 hw1 hw2 hB hrr hlo hhi hdv hrd hk0 hts htl hP hX
                go_wp2_with fail
                refine (HRD.out _).mono ?_
                rintro e w' ⟨rfl, rfl⟩
                clear HRD c0 c1 c2
                have HX0 : Hid ((wr.alloc (.cells #[.int .i64 (who j), .int .i64 (kind j), .slice a' (dl j).length c'] 37)).heap[wr.heap.size]? = some (.cells #[.int .i64 (who j), .int .i64 (kind j), .slice a' (dl j).length c'] 37 (0, 0))) := alloc_new _ _ rfl
                have HP1 := hid_of (HPL.out.keep ((Kept.refl (fun _ => False) wr).alloc (.cells #[.int .i64 (who j), .int .i64 (kind j), .slice a' (dl j).length c'] 37)))
                have HGX : Hid ((∀ i, i < 3 → hf i < wr.heap.size) ∧ (∀ i, i < 3 → ∀ g, (av i).ownBlock = some g → g < wr.heap.size) ∧ gl + 2 ≤ wr.heap.size) := ⟨fun i hi => (HPL.out.hash i hi).lt, fun i hi g hg => ((HPL.out.own i hi).lt g hg).2, HPL.out.bnd.2.2.2⟩
                clear HPL
                have HXN : Hid (∀ i, i < 3 → (xf i).length ≤ tot (lsOf dl n') (j + 1) ∧ ∀ x ∈ xf i, 0 ≤ x ∧ x < 256) := fun i hi => ⟨by have := (HXX.out i hi).1; have := HTS.out; omega, (HXX.out i hi).2⟩
                have HSZ : Hid ((wr.alloc (.cells #[.int .i64 (who j), .int .i64 (kind j), .slice a' (dl j).length c'] 37)).heap.size = wr.heap.size + 1) := by show _ = _; simp
                generalize wr.alloc (.cells #[.int .i64 (who j), .int .i64 (kind j), .slice a' (dl j).length c'] 37) = wx at *
                generalize wr.heap.size = gx at *
                have hkc : wx.cell? ⟨gx, 1, none⟩ = some (.int .i64 (kind j)) := cell_block _ _ _ _ _ _ HX0.out
                have HDC : Hid (wx.cell? ⟨gx, 2, none⟩ = some (.slice a' (dl j).length c')) := cell_block _ _ _ _ _ _ HX0.out
                have hlc := HP1.out.lcell hk
                have hac := HP1.out.acell hk
                have hlz := HP1.out.lfree (k := k)
                have haz := HP1.out.afree (k := k)
                obtain ⟨aK, cK, havk⟩ : ∃ aK cK, av k = .slice aK (xf k).length cK := by
                  obtain ⟨aK, cK, h, _⟩ := bin_own (HP1.out.own k hk)
                  exact ⟨aK, cK, h⟩
                have HBK : Hid (BIn wx (av k) (xf k)) := bin_own (HP1.out.own k hk)
                rw [havk] at hac HBK
                have HLK : Hid ((xf k).length ≤ 2147483647 ∧ (dl j).length ≤ 2147483647) := by
                  have h1 := (HXX.out k hk).1
                  have h2 := HTS.out
                  have h3 := HTL.out
                  have h4 := HT.out
                  exact ⟨by omega, by omega⟩
                have HRK : Hid (∀ x ∈ xf k, 0 ≤ x ∧ x < 256) := (HXX.out k hk).2
                clear HX0
                by_cases h1 : kind j = 1
                · rw [h1] at hkc
                  clear h1
                  have hBX : BIn wx (.slice a' (dl j).length c') (dl j) := HB.out.kept HP1.out.kept (fun _ _ f => f)
                  have HLE := hid_of (lend_any _ (dl j) wx hBX (by have := HLK.out.2; omega))
                  have hdc := HDC.out
                  clear hBX hac
                  go_wp2_with fail
                  refine HLE.out.mono ?_
                  rintro e w2 ⟨rfl, hl2, hk2⟩
                  have hP2 := HP1.out.keep hk2
                  have hg2 : wx.heap.size < w2.heap.size := by
                    obtain ⟨cur, h0, _⟩ := hl2
                    exact heap_lt h0
                  have hHL : ∀ i, i < 3 → hf i < wx.heap.size ∧ ∀ g, (av i).ownBlock = some g → g < wx.heap.size := fun i hi => ⟨(HP1.out.hash i hi).lt, fun g hg => ((HP1.out.own i hi).lt g hg).2⟩
                  have HHL := hid_of hHL
                  have hwr := write_any (hf k) (xf k) (dl j) _ w2 (hP2.hash k hk) (lent_bat hl2 (by have := (hHL k hk).1; omega)) HRR.out (laid_kept HL.out hP2.kept (fun f => f)) (by have := hP2.lo k hk; have := hP2.bnd; omega) (by have := HLK.out; omega)
                  have HWR := hid_of hwr
                  have hl2c := hP2.lcell hk
                  have HP2 := hid_of hP2
                  have HL2 := hid_of hl2
                  have HDC2 := hid_of (hk2.cell HDC.out (fun f => f))
                  have HGW : Hid (wx.heap.size < w2.heap.size ∧ gl + 2 ≤ wx.heap.size) := ⟨hg2, HP1.out.bnd.2.2.2⟩
                  clear hwr hP2 hl2 hk2 hHL hg2 HLE hlc hlz haz hdc
                  go_wp2_with fail
                  refine HWR.out.mono ?_
                  rintro e w3 ⟨rfl, hH3, hk3⟩
                  have hW3 := HP2.out.wrote hk hH3 hk3 (fun _ _ => trivial)
                  have HL3 := hid_of (HL2.out.kept hk3 (by show ¬ (wx.heap.size = hf k); have := (HHL.out k hk).1; omega))
                  have HDC3 : Hid (w3.cell? ⟨gx, 2, none⟩ = some (.slice a' (dl j).length c')) := hk3.cell HDC2.out (by show ¬ (gx = hf k); have := HGX.out.1 k hk; omega)
                  have HBX3 : Hid (BIn w3.drew (.slice a' (dl j).length c') (dl j)) := HB.out.kept hW3.2.2.2.2.1.drew (fun _ _ f => f)
                  obtain ⟨v', w4, hra, ho4, hg4, hat4⟩ := app_at w3.drew (av k) (xf k).length (gl + 2) (xf k) 25 _ (dl j) (show w3.drew.ownsRow _ _ _ _ _ _ from hW3.2.2.2.1 k hk) HBX3.out hW3.2.2.2.2.2 (by have := HLK.out; omega)
                  obtain ⟨a4, c4, hv4⟩ : ∃ a4 c4, v' = .slice a4 ((xf k).length + (dl j).length) c4 := by
                    obtain ⟨a4, c4, h, _⟩ := bin_own ho4
                    exact ⟨a4, c4, by rw [h, List.length_append]⟩
                  subst hv4
                  have hk4 : Kept (fun i => (av k).ownBlock = some i) w3.drew w4 := (Kept.refl (fun i => (av k).ownBlock = some i) w3.drew).grown hg4 (fun i hi => .inr hi)
                  have hown3 := hW3.2.2.2.1 k hk
                  have hA4 : w4.heap[gl + 1]? = some (.cells (row3 av) 40 (0, 0)) := (hk4.block _ (heap_lt hW3.2.1) (fun e => by have := (hown3.lt _ e).1; omega)).trans hW3.2.1
                  have hL4 : w4.heap[gl]? = some (.cells (row3 (ptr3 hf)) 39 (0, 0)) := (hk4.block _ (heap_lt hW3.1) (fun e => by have := (hown3.lt _ e).1; omega)).trans hW3.1
                  have hH4 : HashAt w4 (hf k) (xf k ++ dl j) := by
                    have h := hW3.2.2.1 k hk
                    rw [if_pos rfl] at h
                    exact (show HashAt w3.drew _ _ from h).keep hk4 (HP2.out.onh k k hk hk)
                  have hks := kept_set w4 ⟨gl + 1, k, none⟩ (.slice a4 ((xf k).length + (dl j).length) c4)
                  have hA5 : (w4.setCell ⟨gl + 1, k, none⟩ (.slice a4 ((xf k).length + (dl j).length) c4)).heap[gl + 1]? = some (.cells (row3 (put3 av k (.slice a4 ((xf k).length + (dl j).length) c4))) 40 (0, 0)) := by rw [set_block _ _ _ _ _ _ hA4, row3_set _ _ hk]
                  have HP5 : Hid (Plays w (w4.setCell ⟨gl + 1, k, none⟩ (.slice a4 ((xf k).length + (dl j).length) c4)) (gl + 2) gl (gl + 1) (put3 hf k (hf k)) (put3 av k (.slice a4 ((xf k).length + (dl j).length) c4)) (put3 xf k (xf k ++ dl j))) := by
                    refine HP2.out.renew (w0 := w4) hk ?_ (HP2.out.lo k hk) (fun i hi e => ⟨fun x => HP2.out.hne i k hi hk e x.symm, HP2.out.onh i k hi hk⟩) hH4 (by rw [List.length_append]; exact ho4) (fun g hg => ?_) ?_ hA5 (hks.mono (fun _ _ e => .inr e))
                    · exact ((hk3.mono (T := fun i => i = hf k ∨ (av k).ownBlock = some i) (fun _ _ e => .inl e)).drew).trans (hk4.mono (fun _ _ e => .inr e))
                    · rcases hat4 with h | h
                      · rw [h] at hg
                        exact ⟨fun x => HP2.out.onh k k hk hk (by rw [hg, x]), fun i hi e => ⟨fun x => HP2.out.onh k i hk hi (by rw [hg, x]), HP2.out.one k i hk hi (fun x => e x.symm) g hg⟩⟩
                      · rw [h] at hg
                        cases hg
                        have h3s := hk3.size
                        exact ⟨fun x => by have h1 := (HHL.out k hk).1; have h2 := HGW.out.1; have h4 : w3.heap.size = hf k := x; omega, fun i hi e => ⟨fun x => by have h1 := (HHL.out i hi).1; have h2 := HGW.out.1; have h4 : w3.heap.size = hf i := x; omega, fun x => by have h1 := (HHL.out i hi).2 _ x; have h2 := HGW.out.1; have h4 : w3.drew.heap.size = w3.heap.size := rfl; omega⟩⟩
                    · rw [(hks.block _ (heap_lt hL4) (by show ¬ (gl = gl + 1); omega)).trans hL4]
                      congr 2
                      refine row3_put (fun i hi => ?_)
                      by_cases e : i = k
                      · subst e
                        rw [put3_at]
                        rfl
                      · rw [put3_ne _ _ _ _ e]
                  have HAP : Hid (∀ i, i < 3 → put3 hf k (hf k) i ≠ wx.heap.size ∧ (put3 av k (.slice a4 ((xf k).length + (dl j).length) c4) i).ownBlock ≠ some wx.heap.size) := fun i hi => by
                    have h3s := hk3.size
                    by_cases e : i = k
                    · subst e
                      rw [put3_at, put3_at]
                      refine ⟨by have := (HHL.out i hi).1; omega, fun x => ?_⟩
                      rcases hat4 with h | h
                      · rw [h] at x
                        have := (HHL.out i hi).2 _ x
                        omega
                      · rw [h] at x
                        have h2 := HGW.out.1
                        have h5 : w3.drew.heap.size = w3.heap.size := rfl
                        have h6 := Option.some.inj x
                        omega
                    · rw [put3_ne _ _ _ _ e, put3_ne _ _ _ _ e]
                      exact ⟨by have := (HHL.out i hi).1; omega, fun x => by have := (HHL.out i hi).2 _ x; omega⟩
                  have hL5 : Lent (w4.setCell ⟨gl + 1, k, none⟩ (.slice a4 ((xf k).length + (dl j).length) c4)) wx.heap.size (dl j) 67 := ((show Lent w3.drew _ _ _ from HL3.out).kept hk4 (fun e => by have := (HHL.out k hk).2 _ e; omega)).kept hks (by show ¬ (wx.heap.size = gl + 1); have := HGW.out.2; omega)
                  have HHE := hid_of (held_any wx.heap.size _ (dl j) _ hL5 (HB.out.kept HP5.out.kept (fun _ _ f => f)) (by have := HLK.out.2; omega))
                  have hdc5 : (w4.setCell ⟨gl + 1, k, none⟩ (.slice a4 ((xf k).length + (dl j).length) c4)).cell? ⟨gx, 2, none⟩ = some (.slice a' (dl j).length c') := hks.cell (hk4.cell (show w3.drew.cell? _ = _ from HDC3.out) (fun e => by have := HGX.out.2.1 k hk _ e; show False; simp only at this; omega)) (by show ¬ (gx = gl + 1); have := HGX.out.2.2; omega)
                  have hac3 : w3.drew.cell? ⟨gl + 1, k, none⟩ = some (av k) := by
                    rw [cell_block _ _ _ _ _ _ (show w3.drew.heap[_]? = _ from hW3.2.1), row3_at _ _ hk]
                  have hac4 : w4.cell? ⟨gl + 1, k, none⟩ = some (av k) := by rw [cell_block _ _ _ _ _ _ hA4, row3_at _ _ hk]
                  have haf4 : w4.frozen? ⟨gl + 1, k, none⟩ = false := frozen_block _ _ _ _ _ hA4
                  have HXN2 : Hid (∀ i, i < 3 → (put3 xf k (xf k ++ dl j) i).length ≤ tot (lsOf dl n') (j + 1) ∧ ∀ x ∈ put3 xf k (xf k ++ dl j) i, 0 ≤ x ∧ x < 256) := fun i hi => by
                    by_cases e : i = k
                    · subst e
                      rw [put3_at, List.length_append]
                      refine ⟨by have := (HXX.out i hi).1; have := HTS.out; omega, fun x hx => ?_⟩
                      rcases List.mem_append.1 hx with h | h
                      · exact HRK.out x h
                      · exact HRR.out x h
                    · rw [put3_ne _ _ _ _ e]
                      exact HXN.out i hi
                  replace HXN := HXN2
                  have HDW4 : Hid (w4.cell? ⟨gx, 2, none⟩ = some (.slice a' (dl j).length c')) := hk4.cell (show w3.drew.cell? _ = _ from HDC3.out) (fun e => by have := HGX.out.2.1 k hk _ e; show False; simp only at this; omega)
                  rw [havk] at hra hac3 hac4
                  have HRA := hid_of hra
                  have HAC3 := hid_of hac3
                  clear hW3 hk4 ho4 hg4 hat4 hown3 hA4 hL4 hH4 hks hA5 hL5 hH3 hk3 HXN2 HWR hl2c HP2 HL2 HDC2 HBK hra hac3 hkc
                  generalize (dl j).length = qd at *
                  generalize (xf k).length = lk at *
                  go_wp2_with fail
                  refine wp_region_held_drew (S := fun w' => w'.cell? ⟨gx, 2, none⟩ = some (.slice a' qd c')) (by kernel_rfl) (show w3.drew.cell? _ = _ from HDC3.out) (fun hHeld => ?_)
                  refine wpAnyH_take (i := 0) (v := ?_) rfl (by kernel_rfl) (by kernel_rfl) (by kernel_rfl) (fun _ _ _ h => h) (Or.inl ⟨by rfl, ?_⟩) (by assumption) ?_
                  rotate_left 1
                  · intro w hSw
                    go_simp
                    try with_reducible rfl
                  try simp only [Act.put, List.getElem_toArray, List.getElem_cons_zero, List.getElem_cons_succ, List.setIfInBounds_toArray, List.set_cons_zero, List.set_cons_succ]
                  refine wpAnyH_take (i := 1) (v := ?_) rfl (by kernel_rfl) (by kernel_rfl) (by kernel_rfl) (fun _ _ _ h => h) (Or.inl ⟨by rfl, ?_⟩) (by assumption) ?_
                  rotate_left 1
                  · intro w hSw
                    go_simp
                    try with_reducible rfl
                  try simp only [Act.put, List.getElem_toArray, List.getElem_cons_zero, List.getElem_cons_succ, List.setIfInBounds_toArray, List.set_cons_zero, List.set_cons_succ]
                  refine wpAnyH_take (i := 2) (v := ?_) rfl (by kernel_rfl) (by kernel_rfl) (by kernel_rfl) (fun _ _ _ h => h) (Or.inl ⟨by rfl, ?_⟩) (by assumption) ?_
                  rotate_left 1
                  · intro w hSw
                    go_simp
                    try with_reducible rfl
                  try simp only [Act.put, List.getElem_toArray, List.getElem_cons_zero, List.getElem_cons_succ, List.setIfInBounds_toArray, List.set_cons_zero, List.set_cons_succ]
                  refine wpAnyH_take (i := 4) (v := ?_) rfl (by kernel_rfl) (by kernel_rfl) (by kernel_rfl) (fun _ _ _ h => h) (Or.inl ⟨by rfl, ?_⟩) (by assumption) ?_
                  rotate_left 1
                  · intro w hSw
                    go_simp
                    try with_reducible rfl
                  try simp only [Act.put, List.getElem_toArray, List.getElem_cons_zero, List.getElem_cons_succ, List.setIfInBounds_toArray, List.set_cons_zero, List.set_cons_succ]
                  refine wpAnyH_take (i := 5) (v := ?_) rfl (by kernel_rfl) (by kernel_rfl) (by kernel_rfl) (fun _ _ _ h => h) (Or.inl ⟨by rfl, ?_⟩) (by assumption) ?_
                  rotate_left 1
                  · intro w hSw
                    go_simp
                    try with_reducible rfl
                  try simp only [Act.put, List.getElem_toArray, List.getElem_cons_zero, List.getElem_cons_succ, List.setIfInBounds_toArray, List.set_cons_zero, List.set_cons_succ]
                  have hac3 := HAC3.out
                  refine wpAnyH_ready (rs := [3]) (by kernel_rfl) (by simp) ?_
                  refine AllReadyH.cons rfl (fun K hK => ?_) AllReadyH.nil
                  go_simp
                  refine hK.out _ _ (show w3.drew.cell? _ = _ from HDC3.out) (fun hHeld => ?_)
                  clear hK K
                  try simp only [Act.put, List.getElem_toArray, List.getElem_cons_zero, List.getElem_cons_succ, List.setIfInBounds_toArray, List.set_cons_zero, List.set_cons_succ]
                  clear hac3
                  refine wpAnyH_ready (rs := [6]) (by kernel_rfl) (by simp) ?_
                  refine AllReadyH.cons rfl (fun K hK => ?_) AllReadyH.nil
                  refine step_app rfl (.tmp 71) (.tmp 73) 25 25 rfl _ _ rfl rfl _ _ HRA.out ?_
                  refine hK.out _ _ HDW4.out (fun hHeld => ?_)
                  clear hK K
                  try simp only [Act.put, List.getElem_toArray, List.getElem_cons_zero, List.getElem_cons_succ, List.setIfInBounds_toArray, List.set_cons_zero, List.set_cons_succ]
                  refine wpAnyH_take (i := 7) (v := ?_) rfl (by kernel_rfl) (by kernel_rfl) (by kernel_rfl) (fun _ _ _ h => h) (Or.inl ⟨by rfl, ?_⟩) (by assumption) ?_
                  rotate_left 1
                  · intro w hSw
                    go_simp
                    try with_reducible rfl
                  try simp only [Act.put, List.getElem_toArray, List.getElem_cons_zero, List.getElem_cons_succ, List.setIfInBounds_toArray, List.set_cons_zero, List.set_cons_succ]
                  refine wpAnyH_ready (rs := [8]) (by kernel_rfl) (by simp) ?_
                  refine AllReadyH.cons rfl (fun K hK => ?_) AllReadyH.nil
                  go_simp
                  refine hK.out _ _ hdc5 (fun hHeld => ?_)
                  clear hK K
                  try simp only [Act.put, List.getElem_toArray, List.getElem_cons_zero, List.getElem_cons_succ, List.setIfInBounds_toArray, List.set_cons_zero, List.set_cons_succ]
                  refine wpAnyH_done (by kernel_rfl) ?_ _
                  clear hac4 haf4 HRA HAC3 HDC3 HL3 HBX3 HDW4 HDC
                  try clear hHeld
                  generalize w4.setCell ⟨gl + 1, k, none⟩ (.slice a4 (lk + qd) c4) = w5 at *
                  go_wp2_with fail
                  refine HHE.out.mono ?_
                  rintro e w6 ⟨rfl, hk6⟩
                  have HPN := hid_of (HP5.out.apart hk6 HGW.out.2 HAP.out)
                  clear hk6 HHE HP5 HAP hdc5 HP1
                  try clear hHeld
                  go_wp2
                  go_roundw
                  case rel => exact ⟨j + 1, _, _, _, by omega, by go_num, HPN.out, HXN.out⟩
                  case measure => simp [intOf]; omega
                · by_cases h2 : kind j = 2
                  · rw [h2] at hkc
                    clear h1 h2
                    have HLC := hid_of hlc
                    have HAC := hid_of hac
                    have HSU : Hid (∀ W, Kept (fun _ => False) wx W → Calls Tryd.prog 20 #[.pointer (some ⟨hf k, 0, none⟩)] W fun e w' => e = .returned (.agg ((sha (xf k)).map (Value.int .u8)).toArray) ∧ Kept (fun _ => False) W w') := fun W hW => sum_any (hf k) (xf k) W ((HP1.out.hash k hk).keep hW (fun f => f)) (laid_kept HL.out (HP1.out.kept.trans hW) (fun f => f)) (by have := HP1.out.bnd.2.2; have := hW.size; omega) (by have := HLK.out.1; omega)
                    have HRO : Hid (∀ W, Kept (fun _ => False) wx W → Calls Tryd.prog 15 #[.slice aK (xf k).length cK] W fun e w' => e = .returned (.agg ((sha (xf k)).map (Value.int .u8)).toArray) ∧ Kept (fun _ => False) W w') := fun W hW => rof_any _ (xf k) W (HBK.out.kept hW (fun _ _ f => f)) HRK.out (by have := HLK.out.1; omega)
                    have hsl : (sha (xf k)).length = 32 := by simp [sha, dig]
                    have HGV : Hid (∀ W, Calls Tryd.prog 14 #[.agg ((sha (xf k)).map (Value.int .u8)).toArray] W fun e w' => e = .returned (.agg ((sha (xf k)).map (Value.int .u8)).toArray) ∧ Kept (fun _ => False) W w') := fun W => gv_row _ (by simp [hsl]) (oneCells .u8 _) W
                    have hne : ∀ W, (binOp .neq 31 (.agg ((sha (xf k)).map (Value.int .u8)).toArray) (.agg ((sha (xf k)).map (Value.int .u8)).toArray)).run Tryd.prog W = .ok (.bool false) W := fun W => by
                      rw [run_neq32 W 31 (sha (xf k)) (sha (xf k)) Tryd.underlying31 hsl hsl]
                      simp
                    clear hsl hlc hac
                    generalize ((sha (xf k)).map (Value.int .u8)).toArray = ds at *
                    generalize (xf k).length = lk at *
                    go_wp2_with fail
                    have HBB : Hid (Kept (fun _ => False) wx wx.drew) := (Kept.refl _ wx).drew
                    refine wp_region_held_drew (S := fun w' => w'.cell? ⟨gl, k, none⟩ = some (.pointer (some ⟨hf k, 0, none⟩)) ∧ w'.cell? ⟨gl + 1, k, none⟩ = some (.slice aK lk cK)) (by kernel_rfl) ⟨HBB.out.cell HLC.out (fun f => f), HBB.out.cell HAC.out (fun f => f)⟩ (fun hHeld => ?_)
                    refine wpAnyH_take (i := 0) (v := ?_) rfl (by kernel_rfl) (by kernel_rfl) (by kernel_rfl) (fun _ _ _ h => h) (Or.inl ⟨by rfl, ?_⟩) (by assumption) ?_
                    rotate_left 1
                    · intro w hSw
                      go_simp
                      try with_reducible rfl
                    try simp only [Act.put, List.getElem_toArray, List.getElem_cons_zero, List.getElem_cons_succ, List.setIfInBounds_toArray, List.set_cons_zero, List.set_cons_succ]
                    refine wpAnyH_take (i := 1) (v := ?_) rfl (by kernel_rfl) (by kernel_rfl) (by kernel_rfl) (fun _ _ _ h => h) (Or.inl ⟨by rfl, ?_⟩) (by assumption) ?_
                    rotate_left 1
                    · intro w hSw
                      go_simp
                      try with_reducible rfl
                    try simp only [Act.put, List.getElem_toArray, List.getElem_cons_zero, List.getElem_cons_succ, List.setIfInBounds_toArray, List.set_cons_zero, List.set_cons_succ]
                    refine wpAnyH_take (i := 2) (v := ?_) rfl (by kernel_rfl) (by kernel_rfl) (by kernel_rfl) (fun _ _ _ h => h) (Or.inl ⟨by rfl, ?_⟩) (by assumption) ?_
                    rotate_left 1
                    · intro w hSw
                      obtain ⟨e1, e2⟩ := hSw
                      go_simp
                      try with_reducible rfl
                    try simp only [Act.put, List.getElem_toArray, List.getElem_cons_zero, List.getElem_cons_succ, List.setIfInBounds_toArray, List.set_cons_zero, List.set_cons_succ]
                    refine wpAnyH_take (i := 5) (v := ?_) rfl (by kernel_rfl) (by kernel_rfl) (by kernel_rfl) (fun _ _ _ h => h) (Or.inl ⟨by rfl, ?_⟩) (by assumption) ?_
                    rotate_left 1
                    · intro w hSw
                      go_simp
                      try with_reducible rfl
                    try simp only [Act.put, List.getElem_toArray, List.getElem_cons_zero, List.getElem_cons_succ, List.setIfInBounds_toArray, List.set_cons_zero, List.set_cons_succ]
                    refine wpAnyH_take (i := 6) (v := ?_) rfl (by kernel_rfl) (by kernel_rfl) (by kernel_rfl) (fun _ _ _ h => h) (Or.inl ⟨by rfl, ?_⟩) (by assumption) ?_
                    rotate_left 1
                    · intro w hSw
                      go_simp
                      try with_reducible rfl
                    try simp only [Act.put, List.getElem_toArray, List.getElem_cons_zero, List.getElem_cons_succ, List.setIfInBounds_toArray, List.set_cons_zero, List.set_cons_succ]
                    refine wpAnyH_take (i := 7) (v := ?_) rfl (by kernel_rfl) (by kernel_rfl) (by kernel_rfl) (fun _ _ _ h => h) (Or.inl ⟨by rfl, ?_⟩) (by assumption) ?_
                    rotate_left 1
                    · intro w hSw
                      obtain ⟨e1, e2⟩ := hSw
                      go_simp
                      try with_reducible rfl
                    try simp only [Act.put, List.getElem_toArray, List.getElem_cons_zero, List.getElem_cons_succ, List.setIfInBounds_toArray, List.set_cons_zero, List.set_cons_succ]
                    refine wpAnyH_ready (rs := [3]) (by kernel_rfl) (by simp) ?_
                    refine AllReadyH.cons rfl (fun K hK => ?_) AllReadyH.nil
                    go_simp
                    refine (HSU.out _ HBB.out).mono ?_
                    rintro e w' ⟨rfl, hk'⟩
                    replace HBB := hid_of (HBB.out.trans hk')
                    clear hk'
                    refine hK.out _ _ ⟨HBB.out.cell HLC.out (fun f => f), HBB.out.cell HAC.out (fun f => f)⟩ (fun hHeld => ?_)
                    clear hK K
                    try simp only [Act.put, List.getElem_toArray, List.getElem_cons_zero, List.getElem_cons_succ, List.setIfInBounds_toArray, List.set_cons_zero, List.set_cons_succ]
                    refine wpAnyH_ready (rs := [4]) (by kernel_rfl) (by simp) ?_
                    refine AllReadyH.cons rfl (fun K hK => ?_) AllReadyH.nil
                    go_simp
                    refine (HGV.out _).mono ?_
                    rintro e w' ⟨rfl, hk'⟩
                    replace HBB := hid_of (HBB.out.trans hk')
                    clear hk'
                    refine hK.out _ _ ⟨HBB.out.cell HLC.out (fun f => f), HBB.out.cell HAC.out (fun f => f)⟩ (fun hHeld => ?_)
                    clear hK K
                    try simp only [Act.put, List.getElem_toArray, List.getElem_cons_zero, List.getElem_cons_succ, List.setIfInBounds_toArray, List.set_cons_zero, List.set_cons_succ]
                    refine wpAnyH_ready (rs := [8]) (by kernel_rfl) (by simp) ?_
                    refine AllReadyH.cons rfl (fun K hK => ?_) AllReadyH.nil
                    go_simp
                    refine (HRO.out _ HBB.out).mono ?_
                    rintro e w' ⟨rfl, hk'⟩
                    replace HBB := hid_of (HBB.out.trans hk')
                    clear hk'
                    refine hK.out _ _ ⟨HBB.out.cell HLC.out (fun f => f), HBB.out.cell HAC.out (fun f => f)⟩ (fun hHeld => ?_)
                    clear hK K
                    try simp only [Act.put, List.getElem_toArray, List.getElem_cons_zero, List.getElem_cons_succ, List.setIfInBounds_toArray, List.set_cons_zero, List.set_cons_succ]
                    refine wpAnyH_take (i := 9) (v := ?_) rfl (by kernel_rfl) (by kernel_rfl) (by kernel_rfl) (fun _ _ _ h => h) (Or.inl ⟨by rfl, ?_⟩) (by assumption) ?_
                    rotate_left 1
                    · intro w hSw
                      go_simp
                      try with_reducible rfl
                    try simp only [Act.put, List.getElem_toArray, List.getElem_cons_zero, List.getElem_cons_succ, List.setIfInBounds_toArray, List.set_cons_zero, List.set_cons_succ]
                    refine wpAnyH_done (by kernel_rfl) ?_ _
                    have HPN := hid_of (HP1.out.keep HBB.out)
                    clear HP1 HBB HLC HAC HSU HRO HGV hne
                    try clear hHeld
                    go_wp2
                    go_roundw
                    case rel => exact ⟨j + 1, _, _, _, by omega, by go_num, HPN.out, HXN.out⟩
                    case measure => simp [intOf]; omega
                  · by_cases h3 : kind j = 3
                    · rw [h3] at hkc
                      clear h1 h2 h3
                      have HLC := hid_of hlc
                      have HAC := hid_of hac
                      have HLN : Hid (∀ W, Kept (fun _ => False) wx W → Calls Tryd.prog 21 #[.pointer (some ⟨hf k, 0, none⟩)] W fun e w' => e = .returned (.int .i64 (xf k).length) ∧ w' = W) := fun W hW => len_any (hf k) (xf k) W ((HP1.out.hash k hk).keep hW (fun f => f))
                      clear hlc hac
                      generalize (xf k).length = lk at *
                      go_wp2_with fail
                      have HBB : Hid (Kept (fun _ => False) wx wx.drew) := (Kept.refl _ wx).drew
                      refine wp_region_held_drew (S := fun w' => w'.cell? ⟨gl, k, none⟩ = some (.pointer (some ⟨hf k, 0, none⟩)) ∧ w'.cell? ⟨gl + 1, k, none⟩ = some (.slice aK lk cK)) (by kernel_rfl) ⟨HBB.out.cell HLC.out (fun f => f), HBB.out.cell HAC.out (fun f => f)⟩ (fun hHeld => ?_)
                      refine wpAnyH_take (i := 0) (v := ?_) rfl (by kernel_rfl) (by kernel_rfl) (by kernel_rfl) (fun _ _ _ h => h) (Or.inl ⟨by rfl, ?_⟩) (by assumption) ?_
                      rotate_left 1
                      · intro w hSw
                        go_simp
                        try with_reducible rfl
                      try simp only [Act.put, List.getElem_toArray, List.getElem_cons_zero, List.getElem_cons_succ, List.setIfInBounds_toArray, List.set_cons_zero, List.set_cons_succ]
                      refine wpAnyH_take (i := 1) (v := ?_) rfl (by kernel_rfl) (by kernel_rfl) (by kernel_rfl) (fun _ _ _ h => h) (Or.inl ⟨by rfl, ?_⟩) (by assumption) ?_
                      rotate_left 1
                      · intro w hSw
                        go_simp
                        try with_reducible rfl
                      try simp only [Act.put, List.getElem_toArray, List.getElem_cons_zero, List.getElem_cons_succ, List.setIfInBounds_toArray, List.set_cons_zero, List.set_cons_succ]
                      refine wpAnyH_take (i := 2) (v := ?_) rfl (by kernel_rfl) (by kernel_rfl) (by kernel_rfl) (fun _ _ _ h => h) (Or.inl ⟨by rfl, ?_⟩) (by assumption) ?_
                      rotate_left 1
                      · intro w hSw
                        obtain ⟨e1, e2⟩ := hSw
                        go_simp
                        try with_reducible rfl
                      try simp only [Act.put, List.getElem_toArray, List.getElem_cons_zero, List.getElem_cons_succ, List.setIfInBounds_toArray, List.set_cons_zero, List.set_cons_succ]
                      refine wpAnyH_take (i := 4) (v := ?_) rfl (by kernel_rfl) (by kernel_rfl) (by kernel_rfl) (fun _ _ _ h => h) (Or.inl ⟨by rfl, ?_⟩) (by assumption) ?_
                      rotate_left 1
                      · intro w hSw
                        go_simp
                        try with_reducible rfl
                      try simp only [Act.put, List.getElem_toArray, List.getElem_cons_zero, List.getElem_cons_succ, List.setIfInBounds_toArray, List.set_cons_zero, List.set_cons_succ]
                      refine wpAnyH_take (i := 5) (v := ?_) rfl (by kernel_rfl) (by kernel_rfl) (by kernel_rfl) (fun _ _ _ h => h) (Or.inl ⟨by rfl, ?_⟩) (by assumption) ?_
                      rotate_left 1
                      · intro w hSw
                        go_simp
                        try with_reducible rfl
                      try simp only [Act.put, List.getElem_toArray, List.getElem_cons_zero, List.getElem_cons_succ, List.setIfInBounds_toArray, List.set_cons_zero, List.set_cons_succ]
                      refine wpAnyH_take (i := 6) (v := ?_) rfl (by kernel_rfl) (by kernel_rfl) (by kernel_rfl) (fun _ _ _ h => h) (Or.inl ⟨by rfl, ?_⟩) (by assumption) ?_
                      rotate_left 1
                      · intro w hSw
                        obtain ⟨e1, e2⟩ := hSw
                        go_simp
                        try with_reducible rfl
                      try simp only [Act.put, List.getElem_toArray, List.getElem_cons_zero, List.getElem_cons_succ, List.setIfInBounds_toArray, List.set_cons_zero, List.set_cons_succ]
                      refine wpAnyH_take (i := 7) (v := ?_) rfl (by kernel_rfl) (by kernel_rfl) (by kernel_rfl) (fun _ _ _ h => h) (Or.inl ⟨by rfl, ?_⟩) (by assumption) ?_
                      rotate_left 1
                      · intro w hSw
                        go_simp
                        try with_reducible rfl
                      try simp only [Act.put, List.getElem_toArray, List.getElem_cons_zero, List.getElem_cons_succ, List.setIfInBounds_toArray, List.set_cons_zero, List.set_cons_succ]
                      refine wpAnyH_ready (rs := [3]) (by kernel_rfl) (by simp) ?_
                      refine AllReadyH.cons rfl (fun K hK => ?_) AllReadyH.nil
                      go_simp
                      refine (HLN.out _ HBB.out).mono ?_
                      rintro e w' ⟨rfl, rfl⟩
                      refine hK.out _ _ ⟨HBB.out.cell HLC.out (fun f => f), HBB.out.cell HAC.out (fun f => f)⟩ (fun hHeld => ?_)
                      clear hK K
                      try simp only [Act.put, List.getElem_toArray, List.getElem_cons_zero, List.getElem_cons_succ, List.setIfInBounds_toArray, List.set_cons_zero, List.set_cons_succ]
                      refine wpAnyH_take (i := 8) (v := ?_) rfl (by kernel_rfl) (by kernel_rfl) (by kernel_rfl) (fun _ _ _ h => h) (Or.inl ⟨by rfl, ?_⟩) (by assumption) ?_
                      rotate_left 1
                      · intro w hSw
                        go_simp
                        try with_reducible rfl
                      try simp only [Act.put, List.getElem_toArray, List.getElem_cons_zero, List.getElem_cons_succ, List.setIfInBounds_toArray, List.set_cons_zero, List.set_cons_succ]
                      refine wpAnyH_done (by kernel_rfl) ?_ _
                      have HPN := hid_of (HP1.out.keep HBB.out)
                      clear HP1 HBB HLC HAC HLN
                      try clear hHeld
                      go_wp2
                      go_roundw
                      case rel => exact ⟨j + 1, _, _, _, by omega, by go_num, HPN.out, HXN.out⟩
                      case measure => simp [intOf]; omega
                    · by_cases h4 : kind j = 4
                      · rw [h4] at hkc
                        clear h1 h2 h3 h4
                        have HRS : Hid (Calls Tryd.prog 22 #[.pointer (some ⟨hf k, 0, none⟩)] wx fun e w' => e = .returned (.tuple #[]) ∧ HashAt w' (hf k) [] ∧ Kept (fun j => j = hf k) wx w') := reset_any (hf k) (xf k) wx (HP1.out.hash k hk)
                        clear hac HBK HDC HLK HRK
                        go_wp2_with fail
                        refine HRS.out.mono ?_
                        rintro e w2 ⟨rfl, hH2, hk2⟩
                        have hlo := HP1.out.lo k hk
                        have hbn := HP1.out.bnd
                        have hA2 := (hk2.block _ (heap_lt HP1.out.arow) (by omega)).trans HP1.out.arow
                        have hL2 := (hk2.block _ (heap_lt HP1.out.lrow) (by omega)).trans HP1.out.lrow
                        have hc2 : w2.cell? ⟨gl + 1, k, none⟩ = some (av k) := by rw [cell_block _ _ _ _ _ _ hA2, row3_at _ _ hk]
                        have hf2 : w2.frozen? ⟨gl + 1, k, none⟩ = false := frozen_block _ _ _ _ _ hA2
                        have hks := kept_set w2 ⟨gl + 1, k, none⟩ (.slice none 0 0)
                        have HPN : Hid (Plays w (w2.setCell ⟨gl + 1, k, none⟩ (.slice none 0 0)) (gl + 2) gl (gl + 1) (put3 hf k (hf k)) (put3 av k (.slice none 0 0)) (put3 xf k [])) := by
                          refine HP1.out.renew (w0 := w2) hk (hk2.mono (fun _ _ e => .inl e)) hlo (fun i hi e => ⟨fun x => HP1.out.hne i k hi hk e x.symm, HP1.out.onh i k hi hk⟩) hH2 (World.ownsRow_nil _ _ _ _) (fun j hj => (by cases hj)) ?_ ?_ (hks.mono (fun _ _ e => .inr e))
                          · rw [(hks.block _ (heap_lt hL2) (by show ¬ (gl = gl + 1); omega)).trans hL2]
                            congr 2
                            refine row3_put (fun i hi => ?_)
                            by_cases e : i = k
                            · subst e
                              rw [put3_at]
                              rfl
                            · rw [put3_ne _ _ _ _ e]
                          · rw [set_block _ _ _ _ _ _ hA2, row3_set _ _ hk]
                        have HXN2 : Hid (∀ i, i < 3 → (put3 xf k [] i).length ≤ tot (lsOf dl n') (j + 1) ∧ ∀ x ∈ put3 xf k [] i, 0 ≤ x ∧ x < 256) := fun i hi => by
                          by_cases e : i = k
                          · subst e
                            rw [put3_at]
                            exact ⟨Nat.zero_le _, fun x hx => (by cases hx)⟩
                          · rw [put3_ne _ _ _ _ e]
                            exact HXN.out i hi
                        replace HXN := HXN2
                        clear hA2 hL2 hks hH2 hk2 HP1 HRS HXN2 hlo hbn hlc hlz haz
                        generalize av k = avk at *
                        try clear hHeld
                        go_wp2
                        go_roundw
                        case rel => exact ⟨j + 1, _, _, _, by omega, by go_num, HPN.out, HXN.out⟩
                        case measure => simp [intOf]; omega
                      · by_cases h5 : kind j = 5
                        · rw [h5] at hkc
                          clear h1 h2 h3 h4 h5
                          have hbn := HP1.out.bnd
                          have hKa : Kept (fun _ => False) wx (wx.alloc (.cells zero51 51 (0, 0))) := (Kept.refl _ wx).alloc _
                          have hPz := HP1.out.keep hKa
                          have hl1 := hPz.lcell hk
                          have hl2 := hPz.lfree (k := k)
                          have hks1 := kept_set (wx.alloc (.cells zero51 51 (0, 0))) ⟨gl, k, none⟩ (.pointer (some ⟨wx.heap.size, 0, none⟩))
                          have hAx := (hks1.block _ (heap_lt hPz.arow) (by show ¬ (gl + 1 = gl); omega)).trans hPz.arow
                          have hLx : ((wx.alloc (.cells zero51 51 (0, 0))).setCell ⟨gl, k, none⟩ (.pointer (some ⟨wx.heap.size, 0, none⟩))).heap[gl]? = some (.cells (row3 (put3 (ptr3 hf) k (.pointer (some ⟨wx.heap.size, 0, none⟩)))) 39 (0, 0)) := by rw [set_block _ _ _ _ _ _ hPz.lrow, row3_set _ _ hk]
                          have hc2 : ((wx.alloc (.cells zero51 51 (0, 0))).setCell ⟨gl, k, none⟩ (.pointer (some ⟨wx.heap.size, 0, none⟩))).cell? ⟨gl + 1, k, none⟩ = some (av k) := by rw [cell_block _ _ _ _ _ _ hAx, row3_at _ _ hk]
                          have hf2 : ((wx.alloc (.cells zero51 51 (0, 0))).setCell ⟨gl, k, none⟩ (.pointer (some ⟨wx.heap.size, 0, none⟩))).frozen? ⟨gl + 1, k, none⟩ = false := frozen_block _ _ _ _ _ hAx
                          have hks2 := kept_set ((wx.alloc (.cells zero51 51 (0, 0))).setCell ⟨gl, k, none⟩ (.pointer (some ⟨wx.heap.size, 0, none⟩))) ⟨gl + 1, k, none⟩ (.slice none 0 0)
                          have hLy := (hks2.block _ (heap_lt hLx) (by show ¬ (gl = gl + 1); omega)).trans hLx
                          have HLC3 : Hid ((((wx.alloc (.cells zero51 51 (0, 0))).setCell ⟨gl, k, none⟩ (.pointer (some ⟨wx.heap.size, 0, none⟩))).setCell ⟨gl + 1, k, none⟩ (.slice none 0 0)).cell? ⟨gl, k, none⟩ = some (.pointer (some ⟨wx.heap.size, 0, none⟩))) := by
                            show _ = _
                            rw [cell_block _ _ _ _ _ _ hLy, row3_at _ _ hk, put3_at]
                          have HPN : Hid (Plays w (((wx.alloc (.cells zero51 51 (0, 0))).setCell ⟨gl, k, none⟩ (.pointer (some ⟨wx.heap.size, 0, none⟩))).setCell ⟨gl + 1, k, none⟩ (.slice none 0 0)) (gl + 2) gl (gl + 1) (put3 hf k wx.heap.size) (put3 av k (.slice none 0 0)) (put3 xf k [])) := by
                            refine HP1.out.renew (w0 := wx.alloc (.cells zero51 51 (0, 0))) hk (hKa.mono (fun _ _ f => f.elim)) hbn.2.2.2 (fun i hi e => ⟨fun x => by have := (HP1.out.hash i hi).lt; omega, fun x => by have := ((HP1.out.own i hi).lt _ x).2; omega⟩) (zero_is (alloc_new _ _ rfl)) (World.ownsRow_nil _ _ _ _) (fun j hj => (by cases hj)) hLy ?_ ((hks1.mono (T := fun j => j = gl ∨ j = gl + 1) (fun _ _ e => .inl e)).trans (hks2.mono (fun _ _ e => .inr e)))
                            rw [set_block _ _ _ _ _ _ hAx, row3_set _ _ hk]
                          have HXN2 : Hid (∀ i, i < 3 → (put3 xf k [] i).length ≤ tot (lsOf dl n') (j + 1) ∧ ∀ x ∈ put3 xf k [] i, 0 ≤ x ∧ x < 256) := fun i hi => by
                            by_cases e : i = k
                            · subst e
                              rw [put3_at]
                              exact ⟨Nat.zero_le _, fun x hx => (by cases hx)⟩
                            · rw [put3_ne _ _ _ _ e]
                              exact HXN.out i hi
                          replace HXN := HXN2
                          have HGR : Hid (gl < wx.heap.size) := heap_lt HP1.out.lrow
                          clear hac HBK HDC HLK HRK hlc hlz haz hKa hPz hks1 hks2 hAx hLx hLy HXN2 hbn
                          generalize av k = avk at *
                          go_wp2_with fail
                          refine (new_any _).mono ?_
                          rintro e w2 ⟨rfl, rfl⟩
                          have hl3 := HLC3.out
                          clear HP1 HGX
                          generalize wx.heap.size = gh at *
                          generalize wx.alloc (.cells zero51 51 (0, 0)) = wz at *
                          try clear hHeld
                          go_wp2
                          go_roundw
                          case rel => exact ⟨j + 1, _, _, _, by omega, by go_num, HPN.out, HXN.out⟩
                          case measure => simp [intOf]; omega
                        · by_cases h6 : kind j = 6
                          · rw [h6] at hkc
                            clear h1 h2 h3 h4 h5 h6
                            have hbn := HP1.out.bnd
                            have hKa : Kept (fun _ => False) wx (wx.alloc (.cells zero51 51 (0, 0))) := (Kept.refl _ wx).alloc _
                            have hPz := HP1.out.keep hKa
                            have hl1 := hPz.lcell hk
                            have hl2 := hPz.lfree (k := k)
                            have hks1 := kept_set (wx.alloc (.cells zero51 51 (0, 0))) ⟨gl, k, none⟩ (.pointer (some ⟨wx.heap.size, 0, none⟩))
                            have hAx := (hks1.block _ (heap_lt hPz.arow) (by show ¬ (gl + 1 = gl); omega)).trans hPz.arow
                            have hLx : ((wx.alloc (.cells zero51 51 (0, 0))).setCell ⟨gl, k, none⟩ (.pointer (some ⟨wx.heap.size, 0, none⟩))).heap[gl]? = some (.cells (row3 (put3 (ptr3 hf) k (.pointer (some ⟨wx.heap.size, 0, none⟩)))) 39 (0, 0)) := by rw [set_block _ _ _ _ _ _ hPz.lrow, row3_set _ _ hk]
                            have hc2 : ((wx.alloc (.cells zero51 51 (0, 0))).setCell ⟨gl, k, none⟩ (.pointer (some ⟨wx.heap.size, 0, none⟩))).cell? ⟨gl + 1, k, none⟩ = some (av k) := by rw [cell_block _ _ _ _ _ _ hAx, row3_at _ _ hk]
                            have hf2 : ((wx.alloc (.cells zero51 51 (0, 0))).setCell ⟨gl, k, none⟩ (.pointer (some ⟨wx.heap.size, 0, none⟩))).frozen? ⟨gl + 1, k, none⟩ = false := frozen_block _ _ _ _ _ hAx
                            have hks2 := kept_set ((wx.alloc (.cells zero51 51 (0, 0))).setCell ⟨gl, k, none⟩ (.pointer (some ⟨wx.heap.size, 0, none⟩))) ⟨gl + 1, k, none⟩ (.slice none 0 0)
                            have hLy := (hks2.block _ (heap_lt hLx) (by show ¬ (gl = gl + 1); omega)).trans hLx
                            have HLC3 : Hid ((((wx.alloc (.cells zero51 51 (0, 0))).setCell ⟨gl, k, none⟩ (.pointer (some ⟨wx.heap.size, 0, none⟩))).setCell ⟨gl + 1, k, none⟩ (.slice none 0 0)).cell? ⟨gl, k, none⟩ = some (.pointer (some ⟨wx.heap.size, 0, none⟩))) := by
                              show _ = _
                              rw [cell_block _ _ _ _ _ _ hLy, row3_at _ _ hk, put3_at]
                            have HPN : Hid (Plays w (((wx.alloc (.cells zero51 51 (0, 0))).setCell ⟨gl, k, none⟩ (.pointer (some ⟨wx.heap.size, 0, none⟩))).setCell ⟨gl + 1, k, none⟩ (.slice none 0 0)) (gl + 2) gl (gl + 1) (put3 hf k wx.heap.size) (put3 av k (.slice none 0 0)) (put3 xf k [])) := by
                              refine HP1.out.renew (w0 := wx.alloc (.cells zero51 51 (0, 0))) hk (hKa.mono (fun _ _ f => f.elim)) hbn.2.2.2 (fun i hi e => ⟨fun x => by have := (HP1.out.hash i hi).lt; omega, fun x => by have := ((HP1.out.own i hi).lt _ x).2; omega⟩) (zero_is (alloc_new _ _ rfl)) (World.ownsRow_nil _ _ _ _) (fun j hj => (by cases hj)) hLy ?_ ((hks1.mono (T := fun j => j = gl ∨ j = gl + 1) (fun _ _ e => .inl e)).trans (hks2.mono (fun _ _ e => .inr e)))
                              rw [set_block _ _ _ _ _ _ hAx, row3_set _ _ hk]
                            have HXN2 : Hid (∀ i, i < 3 → (put3 xf k [] i).length ≤ tot (lsOf dl n') (j + 1) ∧ ∀ x ∈ put3 xf k [] i, 0 ≤ x ∧ x < 256) := fun i hi => by
                              by_cases e : i = k
                              · subst e
                                rw [put3_at]
                                exact ⟨Nat.zero_le _, fun x hx => (by cases hx)⟩
                              · rw [put3_ne _ _ _ _ e]
                                exact HXN.out i hi
                            replace HXN := HXN2
                            have HGR : Hid (gl < wx.heap.size) := heap_lt HP1.out.lrow
                            clear hac HBK HDC HLK HRK hlc hlz haz hKa hPz hks1 hks2 hAx hLx hLy HXN2 hbn
                            generalize av k = avk at *
                            have hz := zeroV51
                            clear HP1 HGX
                            try clear hHeld
                            go_wp2
                            go_roundw
                            case rel => exact ⟨j + 1, _, _, _, by omega, by go_num, HPN.out, HXN.out⟩
                            case measure => simp [intOf]; omega
                          · by_cases h7 : kind j = 7
                            · rw [h7] at hkc
                              clear h1 h2 h3 h4 h5 h6 h7
                              have hsl : (sha (dl j)).length = 32 := by simp [sha, dig]
                              have HBX : Hid (BIn wx (.slice a' (dl j).length c') (dl j)) := HB.out.kept HP1.out.kept (fun _ _ f => f)
                              have HOF : Hid (∀ (W : World) (gb : Nat), W.heap[gb]? = some (.cells #[.slice a' (dl j).length c'] 25 (0, 0)) → Kept (fun _ => False) wx W → Calls Tryd.prog 12 #[.slice (some ⟨gb, 0, none⟩) 1 1] W fun e w' => e = .returned (.agg ((sha (dl j)).map (Value.int .u8)).toArray) ∧ Kept (fun _ => False) W w') := fun W gb hb hW => of_one _ (dl j) W gb hb (HBX.out.kept hW (fun _ _ f => f)) HRR.out (laid_kept HL.out (HP1.out.kept.trans hW) (fun f => f)) (by have := HLK.out.2; omega)
                              have HRO : Hid (∀ W, Kept (fun _ => False) wx W → Calls Tryd.prog 15 #[.slice a' (dl j).length c'] W fun e w' => e = .returned (.agg ((sha (dl j)).map (Value.int .u8)).toArray) ∧ Kept (fun _ => False) W w') := fun W hW => rof_any _ (dl j) W (HBX.out.kept hW (fun _ _ f => f)) HRR.out (by have := HLK.out.2; omega)
                              have HGV : Hid (∀ W, Calls Tryd.prog 14 #[.agg ((sha (dl j)).map (Value.int .u8)).toArray] W fun e w' => e = .returned (.agg ((sha (dl j)).map (Value.int .u8)).toArray) ∧ Kept (fun _ => False) W w') := fun W => gv_row _ (by simp [hsl]) (oneCells .u8 _) W
                              have hne : ∀ W, (binOp .neq 31 (.agg ((sha (dl j)).map (Value.int .u8)).toArray) (.agg ((sha (dl j)).map (Value.int .u8)).toArray)).run Tryd.prog W = .ok (.bool false) W := fun W => by
                                rw [run_neq32 W 31 (sha (dl j)) (sha (dl j)) Tryd.underlying31 hsl hsl]
                                simp
                              clear hsl hlc hac HBX
                              generalize ((sha (dl j)).map (Value.int .u8)).toArray = ds at *
                              obtain ⟨qd, hqd⟩ : ∃ qd, (dl j).length = qd := ⟨_, rfl⟩
                              rw [hqd] at HOF HRO HDC
                              clear hqd
                              go_wp2_with fail
                              have HBB : Hid (Kept (fun _ => False) wx wx.drew) := (Kept.refl _ wx).drew
                              refine wp_region_held_drew (S := fun w' => w'.cell? ⟨gx, 2, none⟩ = some (.slice a' qd c')) (by kernel_rfl) (HBB.out.cell HDC.out (fun f => f)) (fun hHeld => ?_)
                              refine wpAnyH_take (i := 0) (v := ?_) rfl (by kernel_rfl) (by kernel_rfl) (by kernel_rfl) (fun _ _ _ h => h) (Or.inl ⟨by rfl, ?_⟩) (by assumption) ?_
                              rotate_left 1
                              · intro w hSw
                                go_simp
                                try with_reducible rfl
                              try simp only [Act.put, List.getElem_toArray, List.getElem_cons_zero, List.getElem_cons_succ, List.setIfInBounds_toArray, List.set_cons_zero, List.set_cons_succ]
                              refine wpAnyH_take (i := 1) (v := ?_) rfl (by kernel_rfl) (by kernel_rfl) (by kernel_rfl) (fun _ _ _ h => h) (Or.inl ⟨by rfl, ?_⟩) (by assumption) ?_
                              rotate_left 1
                              · intro w hSw
                                go_simp
                                try with_reducible rfl
                              try simp only [Act.put, List.getElem_toArray, List.getElem_cons_zero, List.getElem_cons_succ, List.setIfInBounds_toArray, List.set_cons_zero, List.set_cons_succ]
                              refine wpAnyH_take (i := 5) (v := ?_) rfl (by kernel_rfl) (by kernel_rfl) (by kernel_rfl) (fun _ _ _ h => h) (Or.inl ⟨by rfl, ?_⟩) (by assumption) ?_
                              rotate_left 1
                              · intro w hSw
                                go_simp
                                try with_reducible rfl
                              try simp only [Act.put, List.getElem_toArray, List.getElem_cons_zero, List.getElem_cons_succ, List.setIfInBounds_toArray, List.set_cons_zero, List.set_cons_succ]
                              refine wpAnyH_take (i := 6) (v := ?_) rfl (by kernel_rfl) (by kernel_rfl) (by kernel_rfl) (fun _ _ _ h => h) (Or.inl ⟨by rfl, ?_⟩) (by assumption) ?_
                              rotate_left 1
                              · intro w hSw
                                go_simp
                                try with_reducible rfl
                              try simp only [Act.put, List.getElem_toArray, List.getElem_cons_zero, List.getElem_cons_succ, List.setIfInBounds_toArray, List.set_cons_zero, List.set_cons_succ]
                              have HHB : Hid ((wx.drew.alloc (.cells #[.slice a' qd c'] 25)).heap[wx.heap.size]? = some (.cells #[.slice a' qd c'] 25 (0, 0))) := alloc_new _ _ rfl
                              replace HBB := hid_of (HBB.out.alloc (.cells #[.slice a' qd c'] 25))
                              refine wpAnyH_ready (rs := [2]) (by kernel_rfl) (by simp) ?_
                              refine AllReadyH.cons rfl (fun K hK => ?_) AllReadyH.nil
                              go_simp
                              refine hK.out _ _ (HBB.out.cell HDC.out (fun f => f)) (fun hHeld => ?_)
                              clear hK K
                              try simp only [Act.put, List.getElem_toArray, List.getElem_cons_zero, List.getElem_cons_succ, List.setIfInBounds_toArray, List.set_cons_zero, List.set_cons_succ]
                              refine wpAnyH_ready (rs := [3]) (by kernel_rfl) (by simp) ?_
                              refine AllReadyH.cons rfl (fun K hK => ?_) AllReadyH.nil
                              go_simp
                              refine (HOF.out _ wx.heap.size HHB.out HBB.out).mono ?_
                              rintro e w' ⟨rfl, hk'⟩
                              replace HBB := hid_of (HBB.out.trans hk')
                              clear hk'
                              refine hK.out _ _ (HBB.out.cell HDC.out (fun f => f)) (fun hHeld => ?_)
                              clear hK K
                              try simp only [Act.put, List.getElem_toArray, List.getElem_cons_zero, List.getElem_cons_succ, List.setIfInBounds_toArray, List.set_cons_zero, List.set_cons_succ]
                              refine wpAnyH_ready (rs := [4]) (by kernel_rfl) (by simp) ?_
                              refine AllReadyH.cons rfl (fun K hK => ?_) AllReadyH.nil
                              go_simp
                              refine (HGV.out _).mono ?_
                              rintro e w' ⟨rfl, hk'⟩
                              replace HBB := hid_of (HBB.out.trans hk')
                              clear hk'
                              refine hK.out _ _ (HBB.out.cell HDC.out (fun f => f)) (fun hHeld => ?_)
                              clear hK K
                              try simp only [Act.put, List.getElem_toArray, List.getElem_cons_zero, List.getElem_cons_succ, List.setIfInBounds_toArray, List.set_cons_zero, List.set_cons_succ]
                              refine wpAnyH_ready (rs := [7]) (by kernel_rfl) (by simp) ?_
                              refine AllReadyH.cons rfl (fun K hK => ?_) AllReadyH.nil
                              go_simp
                              refine (HRO.out _ HBB.out).mono ?_
                              rintro e w' ⟨rfl, hk'⟩
                              replace HBB := hid_of (HBB.out.trans hk')
                              clear hk'
                              refine hK.out _ _ (HBB.out.cell HDC.out (fun f => f)) (fun hHeld => ?_)
                              clear hK K
                              try simp only [Act.put, List.getElem_toArray, List.getElem_cons_zero, List.getElem_cons_succ, List.setIfInBounds_toArray, List.set_cons_zero, List.set_cons_succ]
                              refine wpAnyH_take (i := 8) (v := ?_) rfl (by kernel_rfl) (by kernel_rfl) (by kernel_rfl) (fun _ _ _ h => h) (Or.inl ⟨by rfl, ?_⟩) (by assumption) ?_
                              rotate_left 1
                              · intro w hSw
                                go_simp
                                try with_reducible rfl
                              try simp only [Act.put, List.getElem_toArray, List.getElem_cons_zero, List.getElem_cons_succ, List.setIfInBounds_toArray, List.set_cons_zero, List.set_cons_succ]
                              refine wpAnyH_done (by kernel_rfl) ?_ _
                              have HPN := hid_of (HP1.out.keep HBB.out)
                              clear HP1 HBB HDC HOF HRO HGV hne HHB
                              try clear hHeld
                              go_wp2
                              go_roundw
                              case rel => exact ⟨j + 1, _, _, _, by omega, by go_num, HPN.out, HXN.out⟩
                              case measure => simp [intOf]; omega
                            · clear HBK HLK HRK HDC
                              generalize kind j = kd at *
                              go_wp2
                              go_roundw
                              case rel => exact ⟨j + 1, _, _, _, by omega, by go_num, HP1.out, HXN.out⟩
                              case measure => simp [intOf]; omega
              · obtain rfl : j = n' := by omega
                have HPL := hid_of hP
                have HXX := hid_of hX
                have HLK : Hid (∀ i, i < 3 → (xf i).length ≤ 2147483647) := fun i hi => by
                  have h1 := (hX i hi).1
                  have h2 := tot_le (lsOf dl j) j
                  have h3 := HT.out
                  omega
                clear hP hX
                go_wp2_with fail
                go_loopw [13] (fun i wr => ∃ t : Nat, t ≤ 3 ∧ i = .int .i64 t ∧ Plays w wr (gl + 2) gl (gl + 1) hf av xf) (fun i _ => 3 - (intOf i).toNat)
                case atStart => exact ⟨0, by omega, rfl, HPL.out⟩
                case round =>
                  clear HPL
                  obtain ⟨k, hkk, rfl, hP⟩ := hrel
                  by_cases hk : k < 3
                  · have hkI : (k : Int) < 3 := by omega
                    have HLC := hid_of (hP.lcell hk)
                    have hac := hP.acell hk
                    obtain ⟨aK, cK, havk⟩ : ∃ aK cK, av k = .slice aK (xf k).length cK := by
                      obtain ⟨aK, cK, h, _⟩ := bin_own (hP.own k hk)
                      exact ⟨aK, cK, h⟩
                    have HBK : Hid (BIn wr (av k) (xf k)) := bin_own (hP.own k hk)
                    rw [havk] at hac HBK
                    have HAC := hid_of hac
                    have hlk := HLK.out k hk
                    have hsl : (sha (xf k)).length = 32 := by simp [sha, dig]
                    have HLN : Hid (∀ W, Kept (fun _ => False) wr W → Calls Tryd.prog 21 #[.pointer (some ⟨hf k, 0, none⟩)] W fun e w' => e = .returned (.int .i64 (xf k).length) ∧ w' = W) := fun W hW => len_any (hf k) (xf k) W ((hP.hash k hk).keep hW (fun f => f))
                    have HSU : Hid (∀ W, Kept (fun _ => False) wr W → Calls Tryd.prog 20 #[.pointer (some ⟨hf k, 0, none⟩)] W fun e w' => e = .returned (.agg ((sha (xf k)).map (Value.int .u8)).toArray) ∧ Kept (fun _ => False) W w') := fun W hW => sum_any (hf k) (xf k) W ((hP.hash k hk).keep hW (fun f => f)) (laid_kept HL.out (hP.kept.trans hW) (fun f => f)) (by have := hP.bnd.2.2; have := hW.size; omega) (by omega)
                    have HRO : Hid (∀ W, Kept (fun _ => False) wr W → Calls Tryd.prog 15 #[.slice aK (xf k).length cK] W fun e w' => e = .returned (.agg ((sha (xf k)).map (Value.int .u8)).toArray) ∧ Kept (fun _ => False) W w') := fun W hW => rof_any _ (xf k) W (HBK.out.kept hW (fun _ _ f => f)) (HXX.out k hk).2 (by omega)
                    have HGV : Hid (∀ W, Calls Tryd.prog 14 #[.agg ((sha (xf k)).map (Value.int .u8)).toArray] W fun e w' => e = .returned (.agg ((sha (xf k)).map (Value.int .u8)).toArray) ∧ Kept (fun _ => False) W w') := fun W => gv_row _ (by simp [hsl]) (oneCells .u8 _) W
                    have hne : ∀ W, (binOp .neq 31 (.agg ((sha (xf k)).map (Value.int .u8)).toArray) (.agg ((sha (xf k)).map (Value.int .u8)).toArray)).run Tryd.prog W = .ok (.bool false) W := fun W => by
                      rw [run_neq32 W 31 (sha (xf k)) (sha (xf k)) Tryd.underlying31 hsl hsl]
                      simp
                    have HPK := hid_of hP
                    clear hsl hac hlk hP HBK
                    generalize ((sha (xf k)).map (Value.int .u8)).toArray = ds at *
                    generalize (xf k).length = lk at *
                    go_wp2_with fail
                    have HBB : Hid (Kept (fun _ => False) wr wr.drew) := (Kept.refl _ wr).drew
                    refine wp_region_held_drew (S := fun w' => w'.cell? ⟨gl, k, none⟩ = some (.pointer (some ⟨hf k, 0, none⟩)) ∧ w'.cell? ⟨gl + 1, k, none⟩ = some (.slice aK lk cK)) (by kernel_rfl) ⟨HBB.out.cell HLC.out (fun f => f), HBB.out.cell HAC.out (fun f => f)⟩ (fun hHeld => ?_)
                    refine wpAnyH_take (i := 0) (v := ?_) rfl (by kernel_rfl) (by kernel_rfl) (by kernel_rfl) (fun _ _ _ h => h) (Or.inl ⟨by rfl, ?_⟩) (by assumption) ?_
                    rotate_left 1
                    · intro w hSw
                      go_simp
                      try with_reducible rfl
                    try simp only [Act.put, List.getElem_toArray, List.getElem_cons_zero, List.getElem_cons_succ, List.setIfInBounds_toArray, List.set_cons_zero, List.set_cons_succ]
                    refine wpAnyH_take (i := 1) (v := ?_) rfl (by kernel_rfl) (by kernel_rfl) (by kernel_rfl) (fun _ _ _ h => h) (Or.inl ⟨by rfl, ?_⟩) (by assumption) ?_
                    rotate_left 1
                    · intro w hSw
                      go_simp
                      try with_reducible rfl
                    try simp only [Act.put, List.getElem_toArray, List.getElem_cons_zero, List.getElem_cons_succ, List.setIfInBounds_toArray, List.set_cons_zero, List.set_cons_succ]
                    refine wpAnyH_take (i := 2) (v := ?_) rfl (by kernel_rfl) (by kernel_rfl) (by kernel_rfl) (fun _ _ _ h => h) (Or.inl ⟨by rfl, ?_⟩) (by assumption) ?_
                    rotate_left 1
                    · intro w hSw
                      obtain ⟨e1, e2⟩ := hSw
                      go_simp
                      try with_reducible rfl
                    try simp only [Act.put, List.getElem_toArray, List.getElem_cons_zero, List.getElem_cons_succ, List.setIfInBounds_toArray, List.set_cons_zero, List.set_cons_succ]
                    refine wpAnyH_take (i := 4) (v := ?_) rfl (by kernel_rfl) (by kernel_rfl) (by kernel_rfl) (fun _ _ _ h => h) (Or.inl ⟨by rfl, ?_⟩) (by assumption) ?_
                    rotate_left 1
                    · intro w hSw
                      go_simp
                      try with_reducible rfl
                    try simp only [Act.put, List.getElem_toArray, List.getElem_cons_zero, List.getElem_cons_succ, List.setIfInBounds_toArray, List.set_cons_zero, List.set_cons_succ]
                    refine wpAnyH_take (i := 5) (v := ?_) rfl (by kernel_rfl) (by kernel_rfl) (by kernel_rfl) (fun _ _ _ h => h) (Or.inl ⟨by rfl, ?_⟩) (by assumption) ?_
                    rotate_left 1
                    · intro w hSw
                      go_simp
                      try with_reducible rfl
                    try simp only [Act.put, List.getElem_toArray, List.getElem_cons_zero, List.getElem_cons_succ, List.setIfInBounds_toArray, List.set_cons_zero, List.set_cons_succ]
                    refine wpAnyH_take (i := 6) (v := ?_) rfl (by kernel_rfl) (by kernel_rfl) (by kernel_rfl) (fun _ _ _ h => h) (Or.inl ⟨by rfl, ?_⟩) (by assumption) ?_
                    rotate_left 1
                    · intro w hSw
                      obtain ⟨e1, e2⟩ := hSw
                      go_simp
                      try with_reducible rfl
                    try simp only [Act.put, List.getElem_toArray, List.getElem_cons_zero, List.getElem_cons_succ, List.setIfInBounds_toArray, List.set_cons_zero, List.set_cons_succ]
                    refine wpAnyH_take (i := 7) (v := ?_) rfl (by kernel_rfl) (by kernel_rfl) (by kernel_rfl) (fun _ _ _ h => h) (Or.inl ⟨by rfl, ?_⟩) (by assumption) ?_
                    rotate_left 1
                    · intro w hSw
                      go_simp
                      try with_reducible rfl
                    try simp only [Act.put, List.getElem_toArray, List.getElem_cons_zero, List.getElem_cons_succ, List.setIfInBounds_toArray, List.set_cons_zero, List.set_cons_succ]
                    refine wpAnyH_ready (rs := [3]) (by kernel_rfl) (by simp) ?_
                    refine AllReadyH.cons rfl (fun K hK => ?_) AllReadyH.nil
                    go_simp
                    refine (HLN.out _ HBB.out).mono ?_
                    rintro e w' ⟨rfl, rfl⟩
                    refine hK.out _ _ ⟨HBB.out.cell HLC.out (fun f => f), HBB.out.cell HAC.out (fun f => f)⟩ (fun hHeld => ?_)
                    clear hK K
                    try simp only [Act.put, List.getElem_toArray, List.getElem_cons_zero, List.getElem_cons_succ, List.setIfInBounds_toArray, List.set_cons_zero, List.set_cons_succ]
                    refine wpAnyH_take (i := 8) (v := ?_) rfl (by kernel_rfl) (by kernel_rfl) (by kernel_rfl) (fun _ _ _ h => h) (Or.inl ⟨by rfl, ?_⟩) (by assumption) ?_
                    rotate_left 1
                    · intro w hSw
                      go_simp
                      try with_reducible rfl
                    try simp only [Act.put, List.getElem_toArray, List.getElem_cons_zero, List.getElem_cons_succ, List.setIfInBounds_toArray, List.set_cons_zero, List.set_cons_succ]
                    refine wpAnyH_take (i := 9) (v := ?_) rfl (by kernel_rfl) (by kernel_rfl) (by kernel_rfl) (fun _ _ _ h => h) (Or.inl ⟨by rfl, ?_⟩) (by assumption) ?_
                    rotate_left 1
                    · intro w hSw
                      go_simp
                      try with_reducible rfl
                    try simp only [Act.put, List.getElem_toArray, List.getElem_cons_zero, List.getElem_cons_succ, List.setIfInBounds_toArray, List.set_cons_zero, List.set_cons_succ]
                    refine wpAnyH_take (i := 10) (v := ?_) rfl (by kernel_rfl) (by kernel_rfl) (by kernel_rfl) (fun _ _ _ h => h) (Or.inl ⟨by rfl, ?_⟩) (by assumption) ?_
                    rotate_left 1
                    · intro w hSw
                      go_simp
                      try with_reducible rfl
                    try simp only [Act.put, List.getElem_toArray, List.getElem_cons_zero, List.getElem_cons_succ, List.setIfInBounds_toArray, List.set_cons_zero, List.set_cons_succ]
                    refine wpAnyH_take (i := 11) (v := ?_) rfl (by kernel_rfl) (by kernel_rfl) (by kernel_rfl) (fun _ _ _ h => h) (Or.inl ⟨by rfl, ?_⟩) (by assumption) ?_
                    rotate_left 1
                    · intro w hSw
                      go_simp
                      try with_reducible rfl
                    try simp only [Act.put, List.getElem_toArray, List.getElem_cons_zero, List.getElem_cons_succ, List.setIfInBounds_toArray, List.set_cons_zero, List.set_cons_succ]
                    refine wpAnyH_take (i := 12) (v := ?_) rfl (by kernel_rfl) (by kernel_rfl) (by kernel_rfl) (fun _ _ _ h => h) (Or.inl ⟨by rfl, ?_⟩) (by assumption) ?_
                    rotate_left 1
                    · intro w hSw
                      obtain ⟨e1, e2⟩ := hSw
                      go_simp
                      try with_reducible rfl
                    try simp only [Act.put, List.getElem_toArray, List.getElem_cons_zero, List.getElem_cons_succ, List.setIfInBounds_toArray, List.set_cons_zero, List.set_cons_succ]
                    refine wpAnyH_take (i := 15) (v := ?_) rfl (by kernel_rfl) (by kernel_rfl) (by kernel_rfl) (fun _ _ _ h => h) (Or.inl ⟨by rfl, ?_⟩) (by assumption) ?_
                    rotate_left 1
                    · intro w hSw
                      go_simp
                      try with_reducible rfl
                    try simp only [Act.put, List.getElem_toArray, List.getElem_cons_zero, List.getElem_cons_succ, List.setIfInBounds_toArray, List.set_cons_zero, List.set_cons_succ]
                    refine wpAnyH_take (i := 16) (v := ?_) rfl (by kernel_rfl) (by kernel_rfl) (by kernel_rfl) (fun _ _ _ h => h) (Or.inl ⟨by rfl, ?_⟩) (by assumption) ?_
                    rotate_left 1
                    · intro w hSw
                      go_simp
                      try with_reducible rfl
                    try simp only [Act.put, List.getElem_toArray, List.getElem_cons_zero, List.getElem_cons_succ, List.setIfInBounds_toArray, List.set_cons_zero, List.set_cons_succ]
                    refine wpAnyH_take (i := 17) (v := ?_) rfl (by kernel_rfl) (by kernel_rfl) (by kernel_rfl) (fun _ _ _ h => h) (Or.inl ⟨by rfl, ?_⟩) (by assumption) ?_
                    rotate_left 1
                    · intro w hSw
                      obtain ⟨e1, e2⟩ := hSw
                      go_simp
                      try with_reducible rfl
                    try simp only [Act.put, List.getElem_toArray, List.getElem_cons_zero, List.getElem_cons_succ, List.setIfInBounds_toArray, List.set_cons_zero, List.set_cons_succ]
                    refine wpAnyH_ready (rs := [13]) (by kernel_rfl) (by simp) ?_
                    refine AllReadyH.cons rfl (fun K hK => ?_) AllReadyH.nil
                    go_simp
                    refine (HSU.out _ HBB.out).mono ?_
                    rintro e w' ⟨rfl, hk'⟩
                    replace HBB := hid_of (HBB.out.trans hk')
                    clear hk'
                    refine hK.out _ _ ⟨HBB.out.cell HLC.out (fun f => f), HBB.out.cell HAC.out (fun f => f)⟩ (fun hHeld => ?_)
                    clear hK K
                    try simp only [Act.put, List.getElem_toArray, List.getElem_cons_zero, List.getElem_cons_succ, List.setIfInBounds_toArray, List.set_cons_zero, List.set_cons_succ]
                    refine wpAnyH_ready (rs := [14]) (by kernel_rfl) (by simp) ?_
                    refine AllReadyH.cons rfl (fun K hK => ?_) AllReadyH.nil
                    go_simp
                    refine (HGV.out _).mono ?_
                    rintro e w' ⟨rfl, hk'⟩
                    replace HBB := hid_of (HBB.out.trans hk')
                    clear hk'
                    refine hK.out _ _ ⟨HBB.out.cell HLC.out (fun f => f), HBB.out.cell HAC.out (fun f => f)⟩ (fun hHeld => ?_)
                    clear hK K
                    try simp only [Act.put, List.getElem_toArray, List.getElem_cons_zero, List.getElem_cons_succ, List.setIfInBounds_toArray, List.set_cons_zero, List.set_cons_succ]
                    refine wpAnyH_ready (rs := [18]) (by kernel_rfl) (by simp) ?_
                    refine AllReadyH.cons rfl (fun K hK => ?_) AllReadyH.nil
                    go_simp
                    refine (HRO.out _ HBB.out).mono ?_
                    rintro e w' ⟨rfl, hk'⟩
                    replace HBB := hid_of (HBB.out.trans hk')
                    clear hk'
                    refine hK.out _ _ ⟨HBB.out.cell HLC.out (fun f => f), HBB.out.cell HAC.out (fun f => f)⟩ (fun hHeld => ?_)
                    clear hK K
                    try simp only [Act.put, List.getElem_toArray, List.getElem_cons_zero, List.getElem_cons_succ, List.setIfInBounds_toArray, List.set_cons_zero, List.set_cons_succ]
                    refine wpAnyH_take (i := 19) (v := ?_) rfl (by kernel_rfl) (by kernel_rfl) (by kernel_rfl) (fun _ _ _ h => h) (Or.inl ⟨by rfl, ?_⟩) (by assumption) ?_
                    rotate_left 1
                    · intro w hSw
                      go_simp
                      try with_reducible rfl
                    try simp only [Act.put, List.getElem_toArray, List.getElem_cons_zero, List.getElem_cons_succ, List.setIfInBounds_toArray, List.set_cons_zero, List.set_cons_succ]
                    refine wpAnyH_take (i := 20) (v := ?_) rfl (by kernel_rfl) (by kernel_rfl) (by kernel_rfl) (fun _ _ _ h => h) (Or.inl ⟨by rfl, ?_⟩) (by assumption) ?_
                    rotate_left 1
                    · intro w hSw
                      go_simp
                      try with_reducible rfl
                    try simp only [Act.put, List.getElem_toArray, List.getElem_cons_zero, List.getElem_cons_succ, List.setIfInBounds_toArray, List.set_cons_zero, List.set_cons_succ]
                    refine wpAnyH_done (by kernel_rfl) ?_ _
                    have HPN := hid_of (HPK.out.keep HBB.out)
                    clear HPK HBB HLC HAC HLN HSU HRO HGV hne
                    try clear hHeld
                    go_wp2
                    go_roundw
                    case rel => exact ⟨k + 1, by omega, by go_num, HPN.out⟩
                    case measure => simp [intOf]; omega
                  · have HPK := hid_of hP.kept
                    clear hP
                    go_wp2
                    go_ret
                    exact ⟨rfl, HPK.out⟩
end Go.Proofs.YtdbogfjkaebeoaaDoor

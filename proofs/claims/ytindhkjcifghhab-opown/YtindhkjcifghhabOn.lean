/-
  A kind's functions by contract; a row of the list of kinds.
-/
import Derived.Test.YtindhkjcifghhabOm
import Derived.Test.YtindhkjcifghhabOi
namespace Go.Proofs.Ytindhkjcifghhab
open Go.RowKit
set_option linter.unusedVariables false
set_option linter.unusedSimpArgs false
set_option maxRecDepth 100000

/-- May a number be the operand? -/
def mayP : Nat → Int → Bool
  | 0, a => a == 0
  | 1, _ => true
  | k, a => decide (0 ≤ a) && decide (a < endOf k)
/-- The bytes of an operand. -/
def opB : Nat → Int → List Int
  | 0, _ => []
  | 1, a => Mth.form (fold a)
  | _, a => Mth.form a

theorem may0 (a : Int) (w : World) : Calls Try.prog 52 #[.int .i64 a] w fun e w' => e = .returned (.bool (a == 0)) ∧ w' = w := by
  go_enter Try.func52, Try.ntmps52
  go_wp2
  go_ret
  exact ⟨rfl, rfl⟩
theorem may1 (a : Int) (w : World) : Calls Try.prog 55 #[.int .i64 a] w fun e w' => e = .returned (.bool true) ∧ w' = w := by
  go_enter Try.func55, Try.ntmps55
  go_wp2
  go_ret
  exact ⟨rfl, rfl⟩
theorem may2 (a n : Int) (b : Nat) (w : World) (hb : w.heap[b]? = some (.cells #[.int .i64 n] 3 (0, 0))) : Calls Try.prog 60 #[.int .i64 a, .pointer (some ⟨b, 0, none⟩)] w fun e w' => e = .returned (.bool (decide (0 ≤ a) && decide (a < n))) ∧ w' = w := by
  have hc : w.cell? ⟨b, 0, none⟩ = some (.int .i64 n) := by rw [cell_block _ _ _ _ _ _ hb]; rfl
  by_cases h : 0 ≤ a
  · have HV : Hid ((decide (0 ≤ a) && decide (a < n)) = decide (a < n)) := by unfold Hid; simp [h]
    rw [HV.out]
    go_enter Try.func60, Try.ntmps60
    go_wp2
    go_ret
    exact ⟨rfl, rfl⟩
  · have HV : Hid ((decide (0 ≤ a) && decide (a < n)) = false) := by unfold Hid; simp [h]
    rw [HV.out]
    go_enter Try.func60, Try.ntmps60
    go_wp2
    go_ret
    exact ⟨rfl, rfl⟩
theorem put0 (x y : Value) (w : World) : Calls Try.prog 53 #[x, y] w fun e w' => e = .returned (.tuple #[]) ∧ w' = w := by
  go_enter Try.func53, Try.ntmps53
  go_wp2
  go_end0
  exact ⟨rfl, rfl⟩
theorem put1 (a : Nat) (v : Value) (s : St) (n : Int) (w : World) (hw : WS w a v s) (hn : -9223372036854775808 ≤ n) (h1 : n < 9223372036854775808) : Calls Try.prog 56 #[.pointer (some ⟨a, 0, none⟩), .int .i64 n] w (PutS a v (s.put (Mth.form (fold n))) w) := by
  have HP := hid_of (int_s a v s n w hw hn h1)
  clear hw
  go_enter Try.func56, Try.ntmps56
  go_wp2_with fail
  refine HP.out.mono ?_
  intro e w2 hp
  have HP := hid_of hp
  obtain ⟨rfl, _⟩ := hp
  go_wp2
  go_end0
  exact HP.out
theorem put2 (a : Nat) (v : Value) (s : St) (n : Int) (w : World) (hw : WS w a v s) (hn : -9223372036854775808 ≤ n) (h1 : n < 9223372036854775808) : Calls Try.prog 61 #[.pointer (some ⟨a, 0, none⟩), .int .i64 n] w (PutS a v (s.num n) w) := by
  have HP := hid_of (num_s a v s n w hw hn h1)
  clear hw
  go_enter Try.func61, Try.ntmps61
  go_wp2_with fail
  refine HP.out.mono ?_
  intro e w2 hp
  have HP := hid_of hp
  obtain ⟨rfl, _⟩ := hp
  go_wp2
  go_end0
  exact HP.out
theorem read0 (x : Value) (w : World) : Calls Try.prog 54 #[x] w fun e w' => e = .returned (.int .i64 0) ∧ w' = w := by
  go_enter Try.func54, Try.ntmps54
  go_wp2
  go_ret
  exact ⟨rfl, rfl⟩
theorem read1 (r g : Nat) (v : Value) (xs : List Int) (w : World) (f : Int) (hr : Rd w r v true f) (hx : IsR w g v xs) (hgr : g ≠ r) (hb : ∀ x ∈ xs, 0 ≤ x ∧ x ≤ 255) :
    Calls Try.prog 58 #[.pointer (some ⟨r, 0, none⟩)] w (Outs (intD xs) r g f w fun n e w' => e = .returned (.int .i64 n) ∧ -9223372036854775808 ≤ n ∧ n < 9223372036854775808) := by
  have HP := hid_of (int_x r g v xs w f hr hx hgr hb)
  cases hd : intD xs with
  | error flt =>
    rw [hd] at HP
    clear hr hx
    go_enter Try.func58, Try.ntmps58
    go_wp2_with fail
    refine HP.out.mono ?_
    rintro e w1 ⟨rfl, h2, h3⟩
    exact ⟨rfl, rfl, h2, h3⟩
  | ok p =>
    obtain ⟨n, rest⟩ := p
    rw [hd] at HP
    clear hr hx
    go_enter Try.func58, Try.ntmps58
    go_wp2_with fail
    refine HP.out.mono ?_
    rintro e w1 ⟨⟨rfl, h1, h2⟩, h3⟩
    have HA := hid_of h3
    clear HP h3
    go_wp2
    go_ret
    exact ⟨⟨rfl, h1, h2⟩, HA.out⟩
theorem read2 (r g : Nat) (v : Value) (xs : List Int) (w : World) (f : Int) (hr : Rd w r v true f) (hx : IsR w g v xs) (hgr : g ≠ r) (hb : ∀ x ∈ xs, 0 ≤ x ∧ x ≤ 255) :
    Calls Try.prog 62 #[.pointer (some ⟨r, 0, none⟩)] w (Outs (numD xs) r g f w fun u e w' => e = .returned (.int .i64 u) ∧ 0 ≤ u ∧ u ≤ 9223372036854775807) := by
  have HP := hid_of (num_x r g v xs w f hr hx hgr hb)
  cases hd : numD xs with
  | error flt =>
    rw [hd] at HP
    clear hr hx
    go_enter Try.func62, Try.ntmps62
    go_wp2_with fail
    refine HP.out.mono ?_
    rintro e w1 ⟨rfl, h2, h3⟩
    exact ⟨rfl, rfl, h2, h3⟩
  | ok p =>
    obtain ⟨n, rest⟩ := p
    rw [hd] at HP
    clear hr hx
    go_enter Try.func62, Try.ntmps62
    go_wp2_with fail
    refine HP.out.mono ?_
    rintro e w1 ⟨⟨rfl, h1, h2⟩, h3⟩
    have HA := hid_of h3
    clear HP h3
    go_wp2
    go_ret
    exact ⟨⟨rfl, h1, h2⟩, HA.out⟩

/-- A row of the list of kinds, or the empty one. -/
def kindR (bx : Nat → Nat) (n : Int) : List Value := if 0 ≤ n ∧ n < 46 then kindL bx (kix n.toNat) else [.nilFunc, .nilFunc, .nilFunc]
theorem kindR_len (bx : Nat → Nat) (n : Int) : (kindR bx n).length = 3 := by
  unfold kindR
  split
  · exact kind_len _ _
  · rfl
theorem kindR_one (bx : Nat → Nat) (n : Int) : (kindR bx n).toArray.all (·.oneCell') = true := by
  unfold kindR
  split
  · exact kind_one _ _
  · exact three_one _ _ _ rfl rfl rfl

set_option maxHeartbeats 4000000 in
theorem rowk_any (g : Nat) (bx : Nat → Nat) (n : Int) (w : World) (h : OpsAt w g bx) (hn0 : -9223372036854775808 ≤ n) (hn1 : n < 9223372036854775808) :
    Calls Try.prog 19 #[.slice (some ⟨g, 0, none⟩) 46 46, .int .i64 n] w fun e w' => e = .returned (.tuple #[.agg (kindR bx n).toArray, .bool (isRow insL n)]) ∧ Kept (fun _ => False) w w' := by
  by_cases hr : 0 ≤ n ∧ n < 46
  · obtain ⟨k, rfl⟩ : ∃ k : Nat, n = k := ⟨n.toNat, by omega⟩
    have hkl : k < 46 := by omega
    have HR : Hid (kindR bx (k : Int) = kindL bx (kix k) ∧ isRow insL (k : Int) = true) := by
      unfold Hid kindR isRow
      rw [if_pos hr]
      exact ⟨by simp, decide_eq_true hr⟩
    have hrg : (w.alloc (.cells #[.nilFunc, .nilFunc, .nilFunc] 59)).rangeAt g (k * 3) (kindL bx (kix k)) := World.rangeAt_alloc (h.row k hkl) _
    have hone := kind_one bx (kix k)
    have hszl : (Try.prog.info? 59).map (·.size) = some (kindL bx (kix k)).length := by rw [size74, kind_len]
    have hsza : (Try.prog.info? 59).map (·.size) = some (kindL bx (kix k)).toArray.size := by rw [size74, List.size_toArray, kind_len]
    have hs0 : (#[.nilFunc, .nilFunc, .nilFunc] : Array Value).size = (kindL bx (kix k)).toArray.size := by rw [show (kindL bx (kix k)).toArray.size = 3 by rw [List.size_toArray, kind_len]]; rfl
    generalize kindL bx (kix k) = L at *
    obtain ⟨hO, hX, hK⟩ := new_row w #[.nilFunc, .nilFunc, .nilFunc] L.toArray 59
    have HX := hid_of hX
    have HK := hid_of hK
    have hk0 : (0 : Int) ≤ (k : Int) := by omega
    have hk1 : (k : Int) < 46 := by omega
    clear hn0 hn1 h hr hX hK
    go_enter Try.func19, Try.ntmps19
    go_wp2_with (first | refine wpList_load_mid rfl 59 _ rfl g (k * 3) rfl L _ hrg Try.underlying59 rfl hszl ?_ | refine wpList_store_row rfl 59 _ _ rfl w.heap.size L.toArray rfl rfl 59 _ hO hsza hs0 hone ?_)
    refine bodyPost_ret (v := .tuple #[.agg L.toArray, .bool true]) ?_ rfl ⟨by rw [HR.out.1, HR.out.2], HK.out⟩
    exact results_row_tmp (by rfl) _ _ ⟨w.heap.size, 0, none⟩ _ _ (by rfl) (by rfl) (run_loadVar_row _ w.heap.size 59 59 _ (0, 0) _ HX.out Try.underlying59 rfl hsza)
  · have HR : Hid (kindR bx n = [.nilFunc, .nilFunc, .nilFunc] ∧ isRow insL n = false) := by
      unfold Hid kindR isRow
      rw [if_neg hr]
      exact ⟨rfl, decide_eq_false hr⟩
    have hd : (decide (n < 0) || decide ((46 : Int) ≤ n)) = true := by
      rw [Bool.or_eq_true, decide_eq_true_iff, decide_eq_true_iff]
      omega
    have hX := heap_alloc2_old w (.cells #[.nilFunc, .nilFunc, .nilFunc] 59) (.cells #[.nilFunc, .nilFunc, .nilFunc] 59)
    have hY := heap_alloc2_new w (.cells #[.nilFunc, .nilFunc, .nilFunc] 59) (.cells #[.nilFunc, .nilFunc, .nilFunc] 59)
    have hK := ((Kept.refl (fun _ => False) w).alloc (.cells #[.nilFunc, .nilFunc, .nilFunc] 59)).alloc (.cells #[.nilFunc, .nilFunc, .nilFunc] 59)
    have HX := hid_of (setRow_heap _ w.heap.size _ #[.nilFunc, .nilFunc, .nilFunc] 59 (0, 0) hX)
    have HK := hid_of (hK.step (kept_row _ w.heap.size #[.nilFunc, .nilFunc, .nilFunc]) (fun i hi e => by omega))
    clear h hr hK
    go_enter Try.func19, Try.ntmps19
    go_wp2_with (first | refine wpList_load_row rfl 59 _ rfl (w.heap.size + 1) rfl 59 _ (0, 0) _ hY Try.underlying59 rfl size74 ?_ | refine wpList_store_row rfl 59 _ _ rfl w.heap.size #[.nilFunc, .nilFunc, .nilFunc] rfl rfl 59 _ hX size74 rfl (three_one _ _ _ rfl rfl rfl) ?_)
    all_goals
      refine bodyPost_ret (v := .tuple #[.agg #[.nilFunc, .nilFunc, .nilFunc], .bool false]) ?_ rfl ⟨by rw [HR.out.1, HR.out.2], HK.out⟩
      exact results_row_tmp (by rfl) _ _ ⟨w.heap.size, 0, none⟩ _ _ (by rfl) (by rfl) (run_loadVar_row _ w.heap.size 59 59 _ (0, 0) _ HX.out Try.underlying59 rfl size74)
end Go.Proofs.Ytindhkjcifghhab

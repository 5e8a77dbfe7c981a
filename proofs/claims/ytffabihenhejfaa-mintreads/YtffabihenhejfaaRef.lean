/-
  The document's forms (package retortref1): Form, Fold by contract.
-/
import Derived.Test.YtffabihenhejfaaItem
namespace Go.Proofs.Ytffabihenhejfaa
open Go.RowKit
set_option linter.unusedVariables false

theorem be_snoc (m : Nat) (y : Int) : Mth.be (m + 1) y = Mth.be m (y / 256) ++ [y % 256] := by
  induction m with
  | zero => simp [Mth.be]
  | succ m ih =>
    have e : y / (256 : Int) ^ (m + 1) = y / 256 / (256 : Int) ^ m := by
      rw [Int.ediv_ediv_of_nonneg (by omega), Int.pow_succ, Int.mul_comm]
    rw [Mth.be, ih, Mth.be, e]
    rfl

theorem sz_step (y : Int) (h0 : 1 ≤ y) (h1 : y < 18446744073709551616) : Mth.sz y = Mth.sz (y / 256) + 1 := by
  have := Mth.sz_cases y
  have := Mth.sz_cases (y / 256)
  omega

theorem be_step (y : Int) (h0 : 1 ≤ y) (h1 : y < 18446744073709551616) : Mth.be (Mth.sz y) y = Mth.be (Mth.sz (y / 256)) (y / 256) ++ [y % 256] := by
  rw [sz_step y h0 h1, be_snoc]

theorem div_step (u : Int) (p : Nat) : u / (256 : Int) ^ (p + 1) = u / (256 : Int) ^ p / 256 := by
  rw [Int.pow_succ, Int.ediv_ediv_of_nonneg (Int.le_of_lt (Mth.pow_pos p))]

theorem div_le (u : Int) (p : Nat) (h0 : 0 ≤ u) : 0 ≤ u / (256 : Int) ^ p ∧ u / (256 : Int) ^ p ≤ u :=
  ⟨Int.ediv_nonneg h0 (Int.le_of_lt (Mth.pow_pos p)), Int.ediv_le_self _ h0⟩

/-- The row that Form makes, so far: the bytes of y without zeros ahead. -/
def Out (w wr : World) (v : Value) (y : Int) : Prop :=
  wr.ownsRow w.heap.size 5 1 v (Mth.sz y) ((Mth.be (Mth.sz y) y).map (Value.int .u8)) ∧ Kept (fun _ => False) w wr

theorem out_step {w wr w' : World} {v v' : Value} {o : Obj} {y : Int} (h0 : 1 ≤ y) (h1 : y < 18446744073709551616) (h : Out w wr v (y / 256))
    (hown' : w'.ownsRow w.heap.size 5 1 v' (Mth.sz (y / 256) + 1) ((Mth.be (Mth.sz (y / 256)) (y / 256)).map (Value.int .u8) ++ [.int .u8 (y % 256)])) (hgrow : (wr.alloc o).grownBy w' v.ownBlock) : Out w w' v' y := by
  refine ⟨?_, (h.2.alloc o).grown hgrow (fun g hg => .inl (h.1.lt g hg).1)⟩
  rw [be_step y h0 h1, sz_step y h0 h1]
  simpa using hown'

set_option maxRecDepth 100000 in
set_option maxHeartbeats 1000000 in
theorem rform_small (u : Int) (w : World) (h0 : 0 ≤ u) (h1 : u ≤ 247) :
    Calls Try.prog 66 #[.int .u64 u] w fun e w' => ∃ v', e = .returned v' ∧ w'.ownsRow w.heap.size 5 1 v' 1 ([u].map (Value.int .u8)) ∧ Kept (fun _ => False) w w' := by
  go_enter Try.func66, Try.ntmps66
  go_wp2
  go_ret
  exact ⟨_, rfl, ⟨rfl, .inr ⟨w.heap.size, 1, #[.int .u8 u], rfl, Nat.le_refl _, heap_alloc_new w _, Nat.le_refl _, by decide, rfl, rfl⟩⟩, (Kept.refl _ _).alloc _⟩

set_option maxRecDepth 100000 in
set_option maxHeartbeats 1000000 in
theorem rform_big (u : Int) (n : Nat) (L : List Int) (w : World) (h0 : 247 < u) (h1 : u < 18446744073709551616) (hn : Mth.sz u = n) (hL : Mth.be n u = L) :
    Calls Try.prog 66 #[.int .u64 u] w fun e w' => ∃ v', e = .returned v' ∧ w'.ownsRow w.heap.size 5 1 v' (1 + n) (((247 + (n : Int)) :: L).map (Value.int .u8)) ∧ Kept (fun _ => False) w w' := by
  have HN := hid_of hn
  have HL := hid_of hL
  clear hn hL
  obtain ⟨i0, hi, hz0, hz1, hz2⟩ := info_parts Try.info5
  go_enter Try.func66, Try.ntmps66
  go_wp2
  go_loopw [3, 4] (fun v i wr => ∃ m : Nat, m ≤ 8 ∧ i = .int .i64 ((m : Int) - 1) ∧ Out w wr v (u / (256 : Int) ^ m)) (fun _ i _ => (intOf i + 1).toNat)
  case atStart =>
    refine ⟨8, by omega, rfl, ?_⟩
    have e : u / (256 : Int) ^ 8 = 0 := Int.ediv_eq_zero_of_lt (by omega) (by simpa using h1)
    rw [e]
    exact ⟨World.ownsRow_nil _ _ _ _, Kept.refl _ _⟩
  case round =>
    obtain ⟨m, hm, rfl, hO⟩ := hrel
    cases m with
    | zero =>
      rw [show (((0 : Nat) : Int) - 1) = -1 from rfl]
      have e : u / (256 : Int) ^ 0 = u := by simp
      have hlm := Mth.be_length (Mth.sz u) u
      have hsl := Mth.sz_le u
      have hsp : 1 ≤ Mth.sz u := by have := Mth.sz_cases u; omega
      unfold Out at hO
      rw [e, HN.out, HL.out] at hO
      rw [HN.out, HL.out] at hlm
      rw [HN.out] at hsl hsp
      obtain ⟨g, cap, rfl⟩ : ∃ g cap, u3 = .slice (some ⟨g, 0, none⟩) n cap := by
        rcases hO.1.2 with ⟨_, h⟩ | ⟨g, cap, _, h, _⟩
        · omega
        · exact ⟨g, cap, h⟩
      have hsl' : (n : Int) ≤ 8 := by omega
      have hown0 : (wr.alloc (.cells #[.int .u8 (247 + (n : Int))] 5)).ownsRow w.heap.size 5 1 (.slice (some ⟨wr.heap.size, 0, none⟩) 1 1) 1 [.int .u8 (247 + (n : Int))] :=
        ⟨rfl, .inr ⟨wr.heap.size, 1, _, rfl, hO.2.size, heap_alloc_new wr _, Nat.le_refl _, by decide, rfl, rfl⟩⟩
      have hsrc := map_cells (w := wr.alloc (.cells #[.int .u8 (247 + (n : Int))] 5)) hlm (own_cells (hO.1.alloc _))
      have HO := hid_of hO
      have HOW := hid_of hown0
      have HSR := hid_of hsrc
      have hws := hO.2.size
      have HLM := hid_of hlm
      clear hO e hown0 hsrc hlm
      go_wp2_with (at_builtin; refine wpList_append_own _ rfl (.tmp 37) (.tmp 38) 25 rfl w.heap.size 5 i0 (.int .u8 0) 1 1 Try.underlying25 hi hz0 hz1 hz2 rfl (by decide) _ _ _ rfl HOW.out ⟨g, 0, none⟩ n cap (L.map (Value.int .u8)) rfl (by simp [HLM.out]) HSR.out (map_one L) (by unfold maxLen; omega) (by omega) (by simp; omega) ?_)
      intro v' w' hown' hgrow hnil
      have HK : Hid (Kept (fun _ => False) w w') := (HO.out.2.alloc _).grown hgrow (fun g hg => .inl (by rw [← Option.some.inj hg]; exact hws))
      have HOO := hid_of hown'
      clear hown' hgrow hnil HO HOW HSR
      go_wp2
      go_ret
      exact ⟨_, rfl, by simpa using HOO.out, HK.out⟩
    | succ p =>
      rw [show (((p + 1 : Nat) : Int) - 1) = (p : Int) from by omega]
      rw [div_step] at hO
      have hd := div_le u p (by omega)
      have hp8 := pow8 p
      have hsl := Mth.sz_le (u / 256 ^ p / 256)
      have hws := hO.2.size
      have HSTEP : Hid (∀ v v' w' (o : Obj), 1 ≤ u / (256 : Int) ^ p → Out w wr v (u / 256 ^ p / 256) → w'.ownsRow w.heap.size 5 1 v' (Mth.sz (u / 256 ^ p / 256) + 1) ((Mth.be (Mth.sz (u / 256 ^ p / 256)) (u / 256 ^ p / 256)).map (Value.int .u8) ++ [.int .u8 (u / 2 ^ (8 * p) % 256)]) → (wr.alloc o).grownBy w' v.ownBlock → Out w w' v' (u / 256 ^ p)) := by
        intro v v' w' o h1y h2y h3y h4y
        rw [hp8] at h3y
        exact out_step h1y (by omega) h2y h3y h4y
      by_cases hq : 1 ≤ u / 256 ^ p / 256
      · have hs : (0 : Int) < (Mth.sz (u / 256 ^ p / 256) : Int) := by have := Mth.sz_cases (u / 256 ^ p / 256); omega
        have HY := hid_of (show 1 ≤ u / (256 : Int) ^ p by omega)
        obtain ⟨ao, cap, rfl⟩ := ownsRow_shape hO.1
        have HO := hid_of hO
        clear hO hd hp8 hq
        go_wp2_with (at_builtin; refine wpList_append_own _ rfl (.tmp 28) (.tmp 30) 25 rfl w.heap.size 5 i0 (.int .u8 0) 1 1 Try.underlying25 hi hz0 hz1 hz2 rfl (by decide) _ _ _ rfl (HO.out.1.alloc _) ⟨wr.heap.size, 0, none⟩ 1 1 [.int .u8 (u / 2 ^ (8 * p) % 256)] rfl rfl (cell_one_new _ _ _) (by intro u hu; simp at hu; subst hu; rfl) (by unfold maxLen; omega) (by omega) (by simp; omega) ?_)
        intro v' w' hown' hgrow hnil
        have R := hid_of (HSTEP.out _ _ _ _ HY.out HO.out hown' hgrow)
        clear hown' hgrow hnil HO HSTEP HY
        go_wp2
        go_roundw
        case rel => exact ⟨p, by omega, rfl, R.out⟩
        case measure => simp [intOf]
      · have hq0 : u / 256 ^ p / 256 = 0 := by omega
        rw [hq0] at hO HSTEP
        obtain ⟨ao, cap, rfl⟩ := ownsRow_shape (show wr.ownsRow w.heap.size 5 1 u3 0 _ from hO.1)
        by_cases hx : u / 2 ^ (8 * p) % 256 = 0
        · have hxb : (u / 2 ^ (8 * p) % 256 != 0) = false := by simp [hx]
          have R : Hid (Out w wr (.slice ao 0 cap) (u / 256 ^ p)) := by
            rw [hp8] at hx
            have e : u / 256 ^ p = 0 := by omega
            rw [e]
            exact hO
          clear hO hd hp8 hq hq0 hx HSTEP
          go_wp2
          go_roundw
          case rel => exact ⟨p, by omega, rfl, R.out⟩
          case measure => simp [intOf]
        · have hxb : (u / 2 ^ (8 * p) % 256 != 0) = true := by simp [hx]
          have HY := hid_of (show 1 ≤ u / (256 : Int) ^ p by rw [hp8] at hx; omega)
          have HO := hid_of hO
          have HO1 := hid_of (show wr.ownsRow w.heap.size 5 1 (.slice ao 0 cap) 0 [] from hO.1)
          clear hO hd hp8 hq hq0 hx
          go_wp2_with (at_builtin; refine wpList_append_own _ rfl (.tmp 28) (.tmp 30) 25 rfl w.heap.size 5 i0 (.int .u8 0) 1 1 Try.underlying25 hi hz0 hz1 hz2 rfl (by decide) _ _ _ rfl (HO1.out.alloc _) ⟨wr.heap.size, 0, none⟩ 1 1 [.int .u8 (u / 2 ^ (8 * p) % 256)] rfl rfl (cell_one_new _ _ _) (by intro u hu; simp at hu; subst hu; rfl) (by unfold maxLen; omega) (by omega) (by simp; omega) ?_)
          intro v' w' hown' hgrow hnil
          have R := hid_of (HSTEP.out _ _ _ _ HY.out HO.out (by simpa [Mth.sz, Mth.be] using hown') hgrow)
          clear hown' hgrow hnil HO HSTEP HY
          go_wp2
          go_roundw
          case rel => exact ⟨p, by omega, rfl, R.out⟩
          case measure => simp [intOf]

/-- The document's form is the form. -/
theorem rform_any (u : Int) (w : World) (h0 : 0 ≤ u) (h1 : u < 18446744073709551616) :
    Calls Try.prog 66 #[.int .u64 u] w fun e w' => ∃ v', e = .returned v' ∧ w'.ownsRow w.heap.size 5 1 v' (Mth.form u).length ((Mth.form u).map (Value.int .u8)) ∧ Kept (fun _ => False) w w' := by
  unfold Mth.form
  by_cases h : u ≤ 247
  · rw [if_pos h]
    exact rform_small u w h0 h
  · rw [if_neg h]
    have := rform_big u _ _ w (by omega) h1 rfl rfl
    rw [List.length_cons, Mth.be_length, Nat.add_comm]
    exact this

set_option maxRecDepth 100000 in
set_option maxHeartbeats 1000000 in
theorem rfold_any (n : Int) (w : World) (hn : -9223372036854775808 ≤ n) (h1 : n < 9223372036854775808) :
    Calls Try.prog 67 #[.int .i64 n] w fun e w' => e = .returned (.int .u64 (fold n)) ∧ w' = w := by
  unfold fold
  by_cases h0 : n < 0
  · rw [if_pos h0]
    go_enter Try.func67, Try.ntmps67
    go_wp2
    go_ret
    refine ⟨?_, rfl⟩
    exact congrArg (fun x => Ending.returned (Value.int .u64 x)) (by omega)
  · rw [if_neg h0]
    go_enter Try.func67, Try.ntmps67
    go_wp2
    go_ret
    exact ⟨rfl, rfl⟩
end Go.Proofs.Ytffabihenhejfaa

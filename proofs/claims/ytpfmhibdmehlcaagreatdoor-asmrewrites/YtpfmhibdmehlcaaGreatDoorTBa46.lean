import Derived.Test.YtpfmhibdmehlcaaGreatDoorTBa2
namespace Go.Proofs.YtpfmhibdmehlcaaGreatDoor
open Go.RowKit
set_option linter.unusedVariables false
set_option linter.unusedSimpArgs false
set_option maxRecDepth 100000
set_option maxRecDepth 100000 in
set_option maxHeartbeats 1000000 in
theorem rform_small (u : Int) (w : World) (h0 : 0 ≤ u) (h1 : u ≤ 247) :
  Calls Tryz.prog 49 #[.int .u64 u] w fun e w' => ∃ v', e = .returned v' ∧ w'.ownsRow w.heap.size 5 1 v' 1 ([u].map (Value.int .u8)) ∧ Kept (fun _ => False) w w' := by
 go_enter Tryz.func49, Tryz.ntmps49
 go_wp2
 go_ret
 exact ⟨_, rfl, ⟨rfl, .inr ⟨w.heap.size, 1, #[.int .u8 u], rfl, Nat.le_refl _, heap_alloc_new w _, Nat.le_refl _, by decide, rfl, rfl⟩⟩, (Kept.refl _ _).alloc _⟩
set_option maxRecDepth 100000 in
set_option maxHeartbeats 1000000 in
theorem rform_big (u : Int) (n : Nat) (L : List Int) (w : World) (h0 : 247 < u) (h1 : u < 18446744073709551616) (hn : Mth.sz u = n) (hL : Mth.be n u = L) :
  Calls Tryz.prog 49 #[.int .u64 u] w fun e w' => ∃ v', e = .returned v' ∧ w'.ownsRow w.heap.size 5 1 v' (1 + n) (((247 + (n : Int)) :: L).map (Value.int .u8)) ∧ Kept (fun _ => False) w w' := by
 have HN := hid_of hn
 have HL := hid_of hL
 clear hn hL
 obtain ⟨i0, hi, hz0, hz1, hz2⟩ := info_parts Tryz.info5
 go_enter Tryz.func49, Tryz.ntmps49
 go_wp2
 go_loopw [3, 4] (fun v i wr => ∃ m : Nat, m ≤ 8 ∧ i = .int .i64 ((m : Int) - 1) ∧ Out w wr v (u / (256 : Int) ^ m)) (fun _ i _ => (intOf i + 1).toNat)
 case atStart =>
  refine ⟨8, by omega, rfl, ?_⟩
  have e : u / (256 : Int) ^ 8 = 0 := Int.ediv_eq_zero_of_lt (by omega) (by simpa using h1)
  rw [e]
  exact ⟨World.ownsRow_nil _ _ _ _, Kept.refl _ _⟩
 case round =>
  obtain ⟨m, hm, rfl, hO⟩ := hrel
  cases m with
  | zero =>
   rw [show (((0 : Nat) : Int) - 1) = -1 from rfl]
   have e : u / (256 : Int) ^ 0 = u := by simp
   have hlm := Mth.be_length (Mth.sz u) u
   have hsl := Mth.sz_le u
   have hsp : 1 ≤ Mth.sz u := by have := Mth.sz_cases u; omega
   unfold Out at hO
   rw [e, HN.out, HL.out] at hO
   rw [HN.out, HL.out] at hlm
   rw [HN.out] at hsl hsp
   obtain ⟨g, cap, rfl⟩ : ∃ g cap, u3 = .slice (some ⟨g, 0, none⟩) n cap := by
    rcases hO.1.2 with ⟨_, h⟩ | ⟨g, cap, _, h, _⟩
    ·omega
    ·exact ⟨g, cap, h⟩
   have hsl' : (n : Int) ≤ 8 := by omega
   have hown0 : (wr.alloc (.cells #[.int .u8 (247 + (n : Int))] 5)).ownsRow w.heap.size 5 1 (.slice (some ⟨wr.heap.size, 0, none⟩) 1 1) 1 [.int .u8 (247 + (n : Int))] :=
    ⟨rfl, .inr ⟨wr.heap.size, 1, _, rfl, hO.2.size, heap_alloc_new wr _, Nat.le_refl _, by decide, rfl, rfl⟩⟩
   have hsrc := map_cells (w := wr.alloc (.cells #[.int .u8 (247 + (n : Int))] 5)) hlm (own_cells (hO.1.alloc _))
   have HO := hid_of hO
   have HOW := hid_of hown0
   have HSR := hid_of hsrc
   have hws := hO.2.size
   have HLM := hid_of hlm
   clear hO e hown0 hsrc hlm
   go_wp2_with (at_builtin; refine wpList_append_own _ rfl (.tmp 37) (.tmp 38) 22 rfl w.heap.size 5 i0 (.int .u8 0) 1 1 Tryz.underlying22 hi hz0 hz1 hz2 rfl (by decide) _ _ _ rfl HOW.out ⟨g, 0, none⟩ n cap (L.map (Value.int .u8)) rfl (by simp [HLM.out]) HSR.out (map_one L) (by unfold maxLen; omega) (by omega) (by simp; omega) ?_)
   intro v' w' hown' hgrow hnil
   have HK : Hid (Kept (fun _ => False) w w') := (HO.out.2.alloc _).grown hgrow (fun g hg => .inl (by rw [← Option.some.inj hg]; exact hws))
   have HOO := hid_of hown'
   clear hown' hgrow hnil HO HOW HSR
   go_wp2
   go_ret
   exact ⟨_, rfl, by simpa using HOO.out, HK.out⟩
  | succ p =>
   rw [show (((p + 1 : Nat) : Int) - 1) = (p : Int) from by omega]
   rw [div_step] at hO
   have hd := div_le u p (by omega)
   have hp8 := pow8 p
   have hsl := Mth.sz_le (u / 256 ^ p / 256)
   have hws := hO.2.size
   have HSTEP : Hid (∀ v v' w' (o : Obj), 1 ≤ u / (256 : Int) ^ p → Out w wr v (u / 256 ^ p / 256) → w'.ownsRow w.heap.size 5 1 v' (Mth.sz (u / 256 ^ p / 256) + 1) ((Mth.be (Mth.sz (u / 256 ^ p / 256)) (u / 256 ^ p / 256)).map (Value.int .u8) ++ [.int .u8 (u / 2 ^ (8 * p) % 256)]) → (wr.alloc o).grownBy w' v.ownBlock → Out w w' v' (u / 256 ^ p)) := by
    intro v v' w' o h1y h2y h3y h4y
    rw [hp8] at h3y
    exact out_step h1y (by omega) h2y h3y h4y
   by_cases hq : 1 ≤ u / 256 ^ p / 256
   ·have hs : (0 : Int) < (Mth.sz (u / 256 ^ p / 256) : Int) := by have := Mth.sz_cases (u / 256 ^ p / 256); omega
    have HY := hid_of (show 1 ≤ u / (256 : Int) ^ p by omega)
    obtain ⟨ao, cap, rfl⟩ := ownsRow_shape hO.1
    have HO := hid_of hO
    clear hO hd hp8 hq
    go_wp2_with (at_builtin; refine wpList_append_own _ rfl (.tmp 28) (.tmp 30) 22 rfl w.heap.size 5 i0 (.int .u8 0) 1 1 Tryz.underlying22 hi hz0 hz1 hz2 rfl (by decide) _ _ _ rfl (HO.out.1.alloc _) ⟨wr.heap.size, 0, none⟩ 1 1 [.int .u8 (u / 2 ^ (8 * p) % 256)] rfl rfl (cell_one_new _ _ _) (by intro u hu; simp at hu; subst hu; rfl) (by unfold maxLen; omega) (by omega) (by simp; omega) ?_)
    intro v' w' hown' hgrow hnil
    have R := hid_of (HSTEP.out _ _ _ _ HY.out HO.out hown' hgrow)
    clear hown' hgrow hnil HO HSTEP HY
    go_wp2
    go_roundw
    case rel => exact ⟨p, by omega, rfl, R.out⟩
    case measure => simp [intOf]
   ·have hq0 : u / 256 ^ p / 256 = 0 := by omega
    rw [hq0] at hO HSTEP
    obtain ⟨ao, cap, rfl⟩ := ownsRow_shape (show wr.ownsRow w.heap.size 5 1 u3 0 _ from hO.1)
    by_cases hx : u / 2 ^ (8 * p) % 256 = 0
    ·have hxb : (u / 2 ^ (8 * p) % 256 != 0) = false := by simp [hx]
     have R : Hid (Out w wr (.slice ao 0 cap) (u / 256 ^ p)) := by
      rw [hp8] at hx
      have e : u / 256 ^ p = 0 := by omega
      rw [e]
      exact hO
     clear hO hd hp8 hq hq0 hx HSTEP
     go_wp2
     go_roundw
     case rel => exact ⟨p, by omega, rfl, R.out⟩
     case measure => simp [intOf]
    ·have hxb : (u / 2 ^ (8 * p) % 256 != 0) = true := by simp [hx]
     have HY := hid_of (show 1 ≤ u / (256 : Int) ^ p by rw [hp8] at hx; omega)
     have HO := hid_of hO
     have HO1 := hid_of (show wr.ownsRow w.heap.size 5 1 (.slice ao 0 cap) 0 [] from hO.1)
     clear hO hd hp8 hq hq0 hx
     go_wp2_with (at_builtin; refine wpList_append_own _ rfl (.tmp 28) (.tmp 30) 22 rfl w.heap.size 5 i0 (.int .u8 0) 1 1 Tryz.underlying22 hi hz0 hz1 hz2 rfl (by decide) _ _ _ rfl (HO1.out.alloc _) ⟨wr.heap.size, 0, none⟩ 1 1 [.int .u8 (u / 2 ^ (8 * p) % 256)] rfl rfl (cell_one_new _ _ _) (by intro u hu; simp at hu; subst hu; rfl) (by unfold maxLen; omega) (by omega) (by simp; omega) ?_)
     intro v' w' hown' hgrow hnil
     have R := hid_of (HSTEP.out _ _ _ _ HY.out HO.out (by simpa [Mth.sz, Mth.be] using hown') hgrow)
     clear hown' hgrow hnil HO HSTEP HY
     go_wp2
     go_roundw
     case rel => exact ⟨p, by omega, rfl, R.out⟩
     case measure => simp [intOf]
theorem rform_any (u : Int) (w : World) (h0 : 0 ≤ u) (h1 : u < 18446744073709551616) :
  Calls Tryz.prog 49 #[.int .u64 u] w fun e w' => ∃ v', e = .returned v' ∧ w'.ownsRow w.heap.size 5 1 v' (Mth.form u).length ((Mth.form u).map (Value.int .u8)) ∧ Kept (fun _ => False) w w' := by
 unfold Mth.form
 by_cases h : u ≤ 247
 ·rw [if_pos h]
  exact rform_small u w h0 h
 ·rw [if_neg h]
  have := rform_big u _ _ w (by omega) h1 rfl rfl
  rw [List.length_cons, Mth.be_length, Nat.add_comm]
  exact this
set_option maxRecDepth 100000 in
set_option maxHeartbeats 1000000 in
theorem rfold_any (n : Int) (w : World) (hn : -9223372036854775808 ≤ n) (h1 : n < 9223372036854775808) :
  Calls Tryz.prog 50 #[.int .i64 n] w fun e w' => e = .returned (.int .u64 (fold n)) ∧ w' = w := by
 unfold fold
 by_cases h0 : n < 0
 ·rw [if_pos h0]
  go_enter Tryz.func50, Tryz.ntmps50
  go_wp2
  go_ret
  refine ⟨?_, rfl⟩
  exact congrArg (fun x => Ending.returned (Value.int .u64 x)) (by omega)
 ·rw [if_neg h0]
  go_enter Tryz.func50, Tryz.ntmps50
  go_wp2
  go_ret
  exact ⟨rfl, rfl⟩
set_option maxRecDepth 100000 in
set_option maxHeartbeats 4000000 in
theorem rput_any (k n : Int) (bv : Value) (xs : List Int) (w : World) (hk0 : 1 ≤ k) (hk1 : k ≤ 6) (hn0 : -9223372036854775808 ≤ n) (hn1 : n < 9223372036854775808) (hkn : k = 1 → 0 ≤ n)
  (hx : IsB w bv xs) (hl : xs.length ≤ 65536) :
  Calls Tryz.prog 34 #[.agg #[.int .i64 k, .int .i64 n, bv]] w fun e w' => ∃ v', e = .returned v' ∧ w'.ownsRow w.heap.size 5 1 v' (itemBytes k n xs).length ((itemBytes k n xs).map (Value.int .u8)) ∧ Kept (fun _ => False) w w' := by
 obtain ⟨ao, c, hbv⟩ := hx.shape
 have hK : Kept (fun _ => False) w (w.alloc (.cells #[.int .i64 k, .int .i64 n, bv] 87)) := (Kept.refl _ _).alloc _
 have hsz : (w.alloc (.cells #[.int .i64 k, .int .i64 n, bv] 87)).heap.size = w.heap.size + 1 := by simp
 have hxb : IsB (w.alloc (.cells #[.int .i64 k, .int .i64 n, bv] 87)) bv xs := hx.kept hK (fun _ _ f => f)
 have hbox := heap_alloc_new w (.cells #[.int .i64 k, .int .i64 n, bv] 87)
 have hk : k = 1 ∨ k = 2 ∨ k = 3 ∨ k = 4 ∨ k = 5 ∨ k = 6 := by omega
 have HKB := hid_of hK
 have HXB := hid_of hxb
 have HSZ := hid_of hsz
 have HBOX := hid_of hbox
 clear hx hK hxb hsz hbox hk0 hk1
 subst hbv
 rcases hk with rfl | rfl | rfl | rfl | rfl | rfl
 ·have hf := hid_of (rform_any n (w.alloc (.cells #[.int .i64 1, .int .i64 n, .slice ao xs.length c] 87)) (hkn rfl) (by omega))
  have hn2 := hkn rfl
  clear hkn
  go_enter Tryz.func34, Tryz.ntmps34
  go_wp2_with fail
  refine hf.out.mono ?_
  rintro e w1 ⟨v1, rfl, ho, hk1⟩
  rw [HSZ.out] at ho
  have H1 := hid_of (own_less ho (Nat.le_succ w.heap.size))
  have H2 := hid_of (HKB.out.trans hk1)
  clear ho hk1 hf HKB HXB HSZ HBOX
  go_wp2
  go_ret
  exact ⟨v1, rfl, H1.out, H2.out⟩
 ·clear hkn
  have hf := hid_of (rfold_any n (w.alloc (.cells #[.int .i64 2, .int .i64 n, .slice ao xs.length c] 87)) hn0 hn1)
  have hfl := fold_le n hn0 hn1
  have hf2 := hid_of (rform_any (fold n) (w.alloc (.cells #[.int .i64 2, .int .i64 n, .slice ao xs.length c] 87)) hfl.1 hfl.2)
  clear hfl
  go_enter Tryz.func34, Tryz.ntmps34
  go_wp2_with fail
  refine hf.out.mono ?_
  rintro e w0 ⟨rfl, rfl⟩
  go_wp2_with fail
  refine hf2.out.mono ?_
  rintro e w1 ⟨v1, rfl, ho, hk1⟩
  rw [HSZ.out] at ho
  have H1 := hid_of (own_less ho (Nat.le_succ w.heap.size))
  have H2 := hid_of (HKB.out.trans hk1)
  clear ho hk1 hf hf2 HKB HXB HSZ HBOX
  go_wp2
  go_ret
  exact ⟨v1, rfl, H1.out, H2.out⟩
 ·clear hkn
  by_cases h1 : n = 1
  ·subst h1
   have hw1 := own_one (w.alloc (.cells #[.int .i64 3, .int .i64 1, .slice ao xs.length c] 87)) (.int .u8 1) w.heap.size (by simp)
   rw [HSZ.out] at hw1
   have HW1 := hid_of hw1
   clear hw1
   go_enter Tryz.func34, Tryz.ntmps34
   go_wp2
   go_ret
   exact ⟨_, rfl, HW1.out, HKB.out.alloc _⟩
  ·have h1b : (n == 1) = false := by simp [h1]
   have hw1 := own_one (w.alloc (.cells #[.int .i64 3, .int .i64 n, .slice ao xs.length c] 87)) (.int .u8 0) w.heap.size (by simp)
   rw [HSZ.out] at hw1
   have HW1 := hid_of hw1
   have he : itemBytes 3 n xs = [0] := by simp [itemBytes, h1]
   have HE := hid_of he
   clear he
   clear hw1
   go_enter Tryz.func34, Tryz.ntmps34
   go_wp2
   go_ret
   rw [HE.out]
   exact ⟨_, rfl, HW1.out, HKB.out.alloc _⟩
 ·clear hkn
  have hf := hid_of (rform_any xs.length (w.alloc (.cells #[.int .i64 4, .int .i64 n, .slice ao xs.length c] 87)) (by omega) (by omega))
  have hll : (xs.length : Int) ≤ 65536 := by omega
  go_enter Tryz.func34, Tryz.ntmps34
  go_wp2_with fail
  refine hf.out.mono ?_
  rintro e w1 ⟨v1, rfl, ho, hk1⟩
  rw [HSZ.out] at ho
  have hfl := (Mth.form_length xs.length (by omega)).2
  obtain ⟨v2, w2, hr, h2, h3⟩ := app_any w1 v1 _ _ _ 22 (.slice ao xs.length c) xs ho (HXB.out.kept hk1 (fun _ _ f => f)) (by have := hk1.size; rw [HSZ.out] at this; exact this) (by omega)
  have b2 : w1.cell? ⟨w.heap.size, 2, none⟩ = some (.slice ao xs.length c) := by
   rw [cell_block _ _ _ _ _ _ ((hk1.block _ (by rw [HSZ.out]; omega) id).trans HBOX.out)]; rfl
  have H1 := hid_of (own_less h2 (Nat.le_succ w.heap.size))
  have H2 : Hid (Kept (fun _ => False) w w2) := (HKB.out.trans hk1).grown h3 (fun g hg => .inl (Nat.le_of_succ_le (ho.lt g hg).1))
  have HE : Hid ((Mth.form xs.length ++ xs).length = (Mth.form xs.length).length + xs.length) := List.length_append
  have HR := hid_of hr
  clear ho hk1 hf HKB HXB HSZ HBOX h2 h3 hr
  go_wp2_with (at_builtin; refine wp_app rfl (.tmp 37) (.tmp 39) 22 22 rfl _ _ rfl rfl v2 w2 HR.out ?_)
  go_ret
  refine ⟨v2, rfl, ?_, H2.out⟩
  have H3 := H1.out
  rw [← HE.out] at H3
  exact H3
 ·clear hkn
  have hf := hid_of (rform_any xs.length (w.alloc (.cells #[.int .i64 5, .int .i64 n, .slice ao xs.length c] 87)) (by omega) (by omega))
  have hll : (xs.length : Int) ≤ 65536 := by omega
  go_enter Tryz.func34, Tryz.ntmps34
  go_wp2_with fail
  refine hf.out.mono ?_
  rintro e w1 ⟨v1, rfl, ho, hk1⟩
  rw [HSZ.out] at ho
  have hfl := (Mth.form_length xs.length (by omega)).2
  obtain ⟨v2, w2, hr, h2, h3⟩ := app_any w1 v1 _ _ _ 22 (.slice ao xs.length c) xs ho (HXB.out.kept hk1 (fun _ _ f => f)) (by have := hk1.size; rw [HSZ.out] at this; exact this) (by omega)
  have b2 : w1.cell? ⟨w.heap.size, 2, none⟩ = some (.slice ao xs.length c) := by
   rw [cell_block _ _ _ _ _ _ ((hk1.block _ (by rw [HSZ.out]; omega) id).trans HBOX.out)]; rfl
  have H1 := hid_of (own_less h2 (Nat.le_succ w.heap.size))
  have H2 : Hid (Kept (fun _ => False) w w2) := (HKB.out.trans hk1).grown h3 (fun g hg => .inl (Nat.le_of_succ_le (ho.lt g hg).1))
  have HE : Hid ((Mth.form xs.length ++ xs).length = (Mth.form xs.length).length + xs.length) := List.length_append
  have HR := hid_of hr
  clear ho hk1 hf HKB HXB HSZ HBOX h2 h3 hr
  go_wp2_with (at_builtin; refine wp_app rfl (.tmp 37) (.tmp 39) 22 22 rfl _ _ rfl rfl v2 w2 HR.out ?_)
  go_ret
  refine ⟨v2, rfl, ?_, H2.out⟩
  have H3 := H1.out
  rw [← HE.out] at H3
  exact H3
 ·clear hkn
  obtain ⟨v2, w2, hr, h2, h3⟩ := app_any (w.alloc (.cells #[.int .i64 6, .int .i64 n, .slice ao xs.length c] 87)) (.slice none 0 0) 0 w.heap.size [] 22 (.slice ao xs.length c) xs (World.ownsRow_nil _ _ _ _) HXB.out (by rw [HSZ.out]; omega) (by omega)
  have H1 := hid_of h2
  have H2 : Hid (Kept (fun _ => False) w w2) := HKB.out.grown h3 (fun g hg => by cases hg)
  have HR := hid_of hr
  clear HKB HXB HSZ HBOX h2 h3 hr
  go_enter Tryz.func34, Tryz.ntmps34
  go_wp2_with (at_builtin; refine wp_app rfl (.tmp 28) (.tmp 30) 22 22 rfl _ _ rfl rfl v2 w2 HR.out ?_)
  go_ret
  refine ⟨v2, rfl, ?_, H2.out⟩
  have H3 := H1.out
  rw [Nat.zero_add] at H3
  exact H3
end Go.Proofs.YtpfmhibdmehlcaaGreatDoor

/-
  The law's head, fresh and round, by contract.
-/
import Derived.Test.YtjdbmjkidljhpaaDoorCplant
import Derived.Test.YtjdbmjkidljhpaaDoorCalls
namespace Go.Proofs.YtjdbmjkidljhpaaDoor
open Go.RowKit
set_option linter.unusedVariables false
set_option linter.unusedSimpArgs false
set_option maxRecDepth 100000

theorem front_a : frontOf 2 [97] = [202, 151, 0, 0, 0, 0, 0, 0, 0, 0, 0, 0, 0, 0, 0, 0, 0, 0, 0, 0, 0, 0, 0, 0, 0, 0, 0, 0, 0, 0, 0, 0] := by decide +kernel

theorem used_empty (σ : Sg) (d xs : List Int) (he : σ.es = []) : usedOf σ d xs = σ.us + ((xs.length : Int) + 32) := by
  unfold usedOf
  rw [he]
  simp [look]
theorem lay_empty {B : Nat} {σ σ' : Sg} {d xs : List Int} (h : LayOk B σ σ' d xs) (he : σ.es = []) : ∃ bv born, σ' = { σ with us := σ.us + ((xs.length : Int) + 32), sp := σ.sp + 1, es := [⟨d, bv, xs, σ.sp + 1, born⟩] } := by
  obtain ⟨bv, born, _, h⟩ := h
  refine ⟨bv, born, ?_⟩
  rw [h, used_empty σ d xs he, he]
  rfl
theorem look_one (d : List Int) (bv : Value) (xs : List Int) (st : Int) (born : Nat) : look [⟨d, bv, xs, st, born⟩] d = some ⟨d, bv, xs, st, born⟩ := by
  rw [look, if_pos rfl]
theorem kept_own {W w w' : World} {s : Nat} {mv : Value} (h : Kept (fun _ => False) W w) (hk : Kept (Own s mv) w w') (hs : W.heap.size ≤ s) (hm : ∀ r, mv = .map (some r) → W.heap.size ≤ r) : Kept (fun _ => False) W w' :=
  h.step hk (fun i hi hh => by
    rcases hh with hh | hh
    · omega
    · have := hm i hh
      omega)
theorem kept_s {W w w' : World} {s : Nat} (h : Kept (fun _ => False) W w) (hk : Kept (fun k => k = s) w w') (hs : W.heap.size ≤ s) : Kept (fun _ => False) W w' :=
  h.step hk (fun i hi hh => by omega)

set_option maxHeartbeats 4000000 in
theorem head_any (w : World) (hL : Laid w) : Calls Tryd.prog 17 #[] w fun e w' => e = .returned (.bool true) ∧ Kept (fun _ => False) w w' := by
  have hL0 := hL.size
  have HL := hid_of hL
  have HN := hid_of (fun W => new_store 2 70 W (by decide) (by decide) (by decide) (by decide))
  have HQ : ∀ (W : World) (a : Addr), (binOp .eql 73 (.func (.func 43) #[] #[.pointer (some a)]) Value.nilFunc).run Tryd.prog W = .ok (.bool false) W := fun W a => rfl
  clear hL
  go_enter Tryd.func17, Tryd.ntmps17
  go_wp2_with fail
  refine (HN.out _).mono ?_
  rintro e w1 ⟨rfl, rfl⟩
  have HS0 := hid_of (stor_new w 2 70)
  have HK0 : Hid (Kept (fun _ => False) w (w.alloc (.cells ((Sg.new 2 70).cells (.map none)) 63))) := (Kept.refl _ w).alloc _
  clear HN
  generalize w.alloc (.cells ((Sg.new 2 70).cells (.map none)) 63) = w1 at *
  go_wp2_with fail
  refine (all_none HS0.out).mono ?_
  rintro e w2 ⟨a, rfl, hk2⟩
  have HS1 : Hid (Stor (w2.alloc (.cells #[.int .u8 97] 5)) w.heap.size (.map none) (Sg.new 2 70)) := HS0.out.kept (hk2.alloc _) (fun _ _ f => f)
  have HK1 : Hid (Kept (fun _ => False) w (w2.alloc (.cells #[.int .u8 97] 5))) := (HK0.out.trans hk2).alloc _
  have HX1 : Hid (BIn (w2.alloc (.cells #[.int .u8 97] 5)) (.slice (some ⟨w2.heap.size, 0, none⟩) 1 1) [97]) := bin_new (t := 5) (f := (0, 0)) (alloc_new _ _ rfl) rfl (Nat.le_refl _)
  have hsz2 : w.heap.size < w2.heap.size := Nat.lt_of_lt_of_le HS0.out.lt hk2.size
  clear hk2 HS0 HK0
  go_wp2_with fail
  have HP := hid_of (put_ok0 HS1.out (laid_kept HL.out HK1.out (fun f => f)) (by omega) 2 rfl (by decide) (by decide) (.slice (some ⟨w2.heap.size, 0, none⟩) 1 1) [97] HX1.out (by decide) (by decide) (fun _ g hg => by cases hg; show w2.heap.size ≠ w.heap.size; omega) (by decide) (by decide) rfl (by decide) (by decide) (by decide) (by decide) (by rw [used_empty _ _ _ rfl]; decide))
  rw [front_a] at HP
  generalize w2.alloc (.cells #[.int .u8 97] 5) = w3 at *
  refine HP.out.mono ?_
  rintro e w4 ⟨rfl, mv, σ, hlo, hS4, hk4, hmv⟩
  obtain ⟨bv, born, hσ⟩ := lay_empty hlo rfl
  have hk4' : Kept (fun _ => False) w w4 := kept_own HK1.out hk4 (Nat.le_refl _) (fun r h => by cases h)
  have hb4 : w.heap.size < w4.heap.size := hS4.lt
  have hdv : dv [202, 151, 0, 0, 0, 0, 0, 0, 0, 0, 0, 0, 0, 0, 0, 0, 0, 0, 0, 0, 0, 0, 0, 0, 0, 0, 0, 0, 0, 0, 0, 0] = .agg #[.int .u8 202, .int .u8 151, .int .u8 0, .int .u8 0, .int .u8 0, .int .u8 0, .int .u8 0, .int .u8 0, .int .u8 0, .int .u8 0, .int .u8 0, .int .u8 0, .int .u8 0, .int .u8 0, .int .u8 0, .int .u8 0, .int .u8 0, .int .u8 0, .int .u8 0, .int .u8 0, .int .u8 0, .int .u8 0, .int .u8 0, .int .u8 0, .int .u8 0, .int .u8 0, .int .u8 0, .int .u8 0, .int .u8 0, .int .u8 0, .int .u8 0, .int .u8 0] := rfl
  have hws : σ.wd = ((2 : Nat) : Int) := by rw [hσ]; rfl
  have hgs : σ.gt = 0 := by rw [hσ]; rfl
  have hus : σ.us = 33 := by rw [hσ]; rfl
  have hlk : look σ.es [202, 151, 0, 0, 0, 0, 0, 0, 0, 0, 0, 0, 0, 0, 0, 0, 0, 0, 0, 0, 0, 0, 0, 0, 0, 0, 0, 0, 0, 0, 0, 0] = some ⟨[202, 151, 0, 0, 0, 0, 0, 0, 0, 0, 0, 0, 0, 0, 0, 0, 0, 0, 0, 0, 0, 0, 0, 0, 0, 0, 0, 0, 0, 0, 0, 0], bv, [97], 1, born⟩ := by rw [hσ]; exact look_one _ _ _ _ _
  have hwb : wholeB 2 σ.es [202, 151, 0, 0, 0, 0, 0, 0, 0, 0, 0, 0, 0, 0, 0, 0, 0, 0, 0, 0, 0, 0, 0, 0, 0, 0, 0, 0, 0, 0, 0, 0] = true := by
    unfold wholeB
    rw [hlk]
    show decide (frontOf 2 [97] = [202, 151, 0, 0, 0, 0, 0, 0, 0, 0, 0, 0, 0, 0, 0, 0, 0, 0, 0, 0, 0, 0, 0, 0, 0, 0, 0, 0, 0, 0, 0, 0]) = true
    rw [front_a]
    rfl
  have hrx : rawX σ.es [202, 151, 0, 0, 0, 0, 0, 0, 0, 0, 0, 0, 0, 0, 0, 0, 0, 0, 0, 0, 0, 0, 0, 0, 0, 0, 0, 0, 0, 0, 0, 0] = [97] := by
    unfold rawX
    rw [hlk]
  have HS5 : Hid (Stor (w4.alloc (.cells #[.int .u8 202, .int .u8 151, .int .u8 0, .int .u8 0, .int .u8 0, .int .u8 0, .int .u8 0, .int .u8 0, .int .u8 0, .int .u8 0, .int .u8 0, .int .u8 0, .int .u8 0, .int .u8 0, .int .u8 0, .int .u8 0, .int .u8 0, .int .u8 0, .int .u8 0, .int .u8 0, .int .u8 0, .int .u8 0, .int .u8 0, .int .u8 0, .int .u8 0, .int .u8 0, .int .u8 0, .int .u8 0, .int .u8 0, .int .u8 0, .int .u8 0, .int .u8 0] 28)) w.heap.size mv σ) := hS4.kept ((Kept.refl (fun _ => False) w4).alloc _) (fun _ _ f => f)
  have HK5 : Hid (Kept (fun _ => False) w (w4.alloc (.cells #[.int .u8 202, .int .u8 151, .int .u8 0, .int .u8 0, .int .u8 0, .int .u8 0, .int .u8 0, .int .u8 0, .int .u8 0, .int .u8 0, .int .u8 0, .int .u8 0, .int .u8 0, .int .u8 0, .int .u8 0, .int .u8 0, .int .u8 0, .int .u8 0, .int .u8 0, .int .u8 0, .int .u8 0, .int .u8 0, .int .u8 0, .int .u8 0, .int .u8 0, .int .u8 0, .int .u8 0, .int .u8 0, .int .u8 0, .int .u8 0, .int .u8 0, .int .u8 0] 28))) := hk4'.alloc _
  have HD5 : Hid ((w4.alloc (.cells #[.int .u8 202, .int .u8 151, .int .u8 0, .int .u8 0, .int .u8 0, .int .u8 0, .int .u8 0, .int .u8 0, .int .u8 0, .int .u8 0, .int .u8 0, .int .u8 0, .int .u8 0, .int .u8 0, .int .u8 0, .int .u8 0, .int .u8 0, .int .u8 0, .int .u8 0, .int .u8 0, .int .u8 0, .int .u8 0, .int .u8 0, .int .u8 0, .int .u8 0, .int .u8 0, .int .u8 0, .int .u8 0, .int .u8 0, .int .u8 0, .int .u8 0, .int .u8 0] 28)).heap[w4.heap.size]? = some (.cells #[.int .u8 202, .int .u8 151, .int .u8 0, .int .u8 0, .int .u8 0, .int .u8 0, .int .u8 0, .int .u8 0, .int .u8 0, .int .u8 0, .int .u8 0, .int .u8 0, .int .u8 0, .int .u8 0, .int .u8 0, .int .u8 0, .int .u8 0, .int .u8 0, .int .u8 0, .int .u8 0, .int .u8 0, .int .u8 0, .int .u8 0, .int .u8 0, .int .u8 0, .int .u8 0, .int .u8 0, .int .u8 0, .int .u8 0, .int .u8 0, .int .u8 0, .int .u8 0] 28 (0, 0))) := alloc_new _ _ rfl
  have HG := hid_of (get_ok HS5.out (laid_kept HL.out HK5.out (fun f => f)) (by omega) 2 hws (by decide) (by decide) [202, 151, 0, 0, 0, 0, 0, 0, 0, 0, 0, 0, 0, 0, 0, 0, 0, 0, 0, 0, 0, 0, 0, 0, 0, 0, 0, 0, 0, 0, 0, 0] rfl (by omega) (by omega) hwb)
  rw [hrx, hdv] at HG
  rw [hdv]
  have hds : (Tryd.prog.info? 28).map (·.size) = some (#[.int .u8 202, .int .u8 151, .int .u8 0, .int .u8 0, .int .u8 0, .int .u8 0, .int .u8 0, .int .u8 0, .int .u8 0, .int .u8 0, .int .u8 0, .int .u8 0, .int .u8 0, .int .u8 0, .int .u8 0, .int .u8 0, .int .u8 0, .int .u8 0, .int .u8 0, .int .u8 0, .int .u8 0, .int .u8 0, .int .u8 0, .int .u8 0, .int .u8 0, .int .u8 0, .int .u8 0, .int .u8 0, .int .u8 0, .int .u8 0, .int .u8 0, .int .u8 0] : Array Value).size := size28
  have hone : (#[.int .u8 202, .int .u8 151, .int .u8 0, .int .u8 0, .int .u8 0, .int .u8 0, .int .u8 0, .int .u8 0, .int .u8 0, .int .u8 0, .int .u8 0, .int .u8 0, .int .u8 0, .int .u8 0, .int .u8 0, .int .u8 0, .int .u8 0, .int .u8 0, .int .u8 0, .int .u8 0, .int .u8 0, .int .u8 0, .int .u8 0, .int .u8 0, .int .u8 0, .int .u8 0, .int .u8 0, .int .u8 0, .int .u8 0, .int .u8 0, .int .u8 0, .int .u8 0] : Array Value).all (·.oneCell') = true := oneCells .u8 [202, 151, 0, 0, 0, 0, 0, 0, 0, 0, 0, 0, 0, 0, 0, 0, 0, 0, 0, 0, 0, 0, 0, 0, 0, 0, 0, 0, 0, 0, 0, 0]
  have HUS := hid_of hus
  clear HP hlo hS4 hk4 hmv hσ hk4' hdv hws hgs hlk hwb hrx hus HS1 HX1 HK1
  go_wp2_with (first | (refine wpList_store_row rfl 28 _ _ rfl w4.heap.size #[.int .u8 202, .int .u8 151, .int .u8 0, .int .u8 0, .int .u8 0, .int .u8 0, .int .u8 0, .int .u8 0, .int .u8 0, .int .u8 0, .int .u8 0, .int .u8 0, .int .u8 0, .int .u8 0, .int .u8 0, .int .u8 0, .int .u8 0, .int .u8 0, .int .u8 0, .int .u8 0, .int .u8 0, .int .u8 0, .int .u8 0, .int .u8 0, .int .u8 0, .int .u8 0, .int .u8 0, .int .u8 0, .int .u8 0, .int .u8 0, .int .u8 0, .int .u8 0] rfl rfl 28 _ (alloc_new _ _ rfl) hds rfl hone ?_; rw [setRow_new _ _ _ _ rfl]) | refine wpList_load_row rfl 28 _ rfl w4.heap.size rfl 28 #[.int .u8 202, .int .u8 151, .int .u8 0, .int .u8 0, .int .u8 0, .int .u8 0, .int .u8 0, .int .u8 0, .int .u8 0, .int .u8 0, .int .u8 0, .int .u8 0, .int .u8 0, .int .u8 0, .int .u8 0, .int .u8 0, .int .u8 0, .int .u8 0, .int .u8 0, .int .u8 0, .int .u8 0, .int .u8 0, .int .u8 0, .int .u8 0, .int .u8 0, .int .u8 0, .int .u8 0, .int .u8 0, .int .u8 0, .int .u8 0, .int .u8 0, .int .u8 0] (0, 0) _ HD5.out Tryd.underlying28 rfl hds ?_)
  generalize hb5 : w4.heap.size = b5 at *
  generalize w4.alloc (.cells #[.int .u8 202, .int .u8 151, .int .u8 0, .int .u8 0, .int .u8 0, .int .u8 0, .int .u8 0, .int .u8 0, .int .u8 0, .int .u8 0, .int .u8 0, .int .u8 0, .int .u8 0, .int .u8 0, .int .u8 0, .int .u8 0, .int .u8 0, .int .u8 0, .int .u8 0, .int .u8 0, .int .u8 0, .int .u8 0, .int .u8 0, .int .u8 0, .int .u8 0, .int .u8 0, .int .u8 0, .int .u8 0, .int .u8 0, .int .u8 0, .int .u8 0, .int .u8 0] 28) = w5 at *
  refine HG.out.mono ?_
  rintro e w6 ⟨v, rfl, hv1, _, hS6, hk6⟩
  have HK6 := hid_of (kept_s HK5.out hk6 (Nat.le_refl _))
  have hD6 : w6.heap[b5]? = some (.cells #[.int .u8 202, .int .u8 151, .int .u8 0, .int .u8 0, .int .u8 0, .int .u8 0, .int .u8 0, .int .u8 0, .int .u8 0, .int .u8 0, .int .u8 0, .int .u8 0, .int .u8 0, .int .u8 0, .int .u8 0, .int .u8 0, .int .u8 0, .int .u8 0, .int .u8 0, .int .u8 0, .int .u8 0, .int .u8 0, .int .u8 0, .int .u8 0, .int .u8 0, .int .u8 0, .int .u8 0, .int .u8 0, .int .u8 0, .int .u8 0, .int .u8 0, .int .u8 0] 28 (0, 0)) := (hk6.block _ (heap_lt HD5.out) (by omega)).trans HD5.out
  obtain ⟨vo, vc, hvv, _, _⟩ := id hv1
  subst hvv
  have HSA : Hid (Calls Tryd.prog 23 #[.slice vo [97].length vc, .slice (some ⟨w6.heap.size, 0, none⟩) 1 1] (w6.alloc (.cells #[.int .u8 97] 5)) fun e w' => e = .returned (.bool true) ∧ Kept (fun _ => False) (w6.alloc (.cells #[.int .u8 97] 5)) w') := same_any _ _ [97] [97] _ (hv1.kept2 ((Kept.refl (fun _ => False) w6).alloc _) (fun _ _ _ f => f)) (bin_new (t := 5) (f := (0, 0)) (alloc_new _ _ rfl) rfl (Nat.le_refl _)) (by decide)
  have HS7 := hid_of hS6
  have HD7 := hid_of hD6
  have hb5' : b5 < w6.heap.size := heap_lt hD6
  clear hv1 hS6 hk6 hD6 HG HD5 HK5 HS5
  go_wp2_with fail
  refine HSA.out.mono ?_
  rintro e w8 ⟨rfl, hk8⟩
  have hkk : Kept (fun _ => False) w6 w8 := ((Kept.refl _ w6).alloc _).trans hk8
  have HK8 := hid_of (HK6.out.trans hkk)
  have HS8 := hid_of (HS7.out.kept hkk (fun _ _ f => f))
  have hD8 := (hkk.block _ hb5' (fun f => f)).trans HD7.out
  have e0 : w8.cell? ⟨b5, 0, none⟩ = some (.int .u8 202) := (cell_block _ _ _ _ _ _ hD8).trans rfl
  have e1 : w8.cell? ⟨b5, 1, none⟩ = some (.int .u8 151) := (cell_block _ _ _ _ _ _ hD8).trans rfl
  have e2 : w8.cell? ⟨b5, 2, none⟩ = some (.int .u8 0) := (cell_block _ _ _ _ _ _ hD8).trans rfl
  have HU := hid_of (used_any HS8.out)
  have hus2 : σ.get1.us = 33 := HUS.out
  rw [hus2] at HU
  clear HSA hk8 hkk HK6 HS7 HD7 hD8 HS8 hus2 HUS
  go_wp2_with fail
  refine HU.out.mono ?_
  rintro e w9 ⟨rfl, rfl⟩
  go_wp2
  go_ret
  exact ⟨rfl, HK8.out⟩

set_option maxHeartbeats 1000000 in
theorem round_any (x n : Int) (w : World) (h0 : -9223372036854775808 ≤ x) (h1 : x ≤ 9223372036854775807) (hn : 0 < n) (hn' : n ≤ 4611686018427387904) :
    Calls Tryd.prog 26 #[.int .i64 x, .int .i64 n] w fun e w' => e = .returned (.int .i64 (x % n)) ∧ w' = w := by
  have hz : (n == 0) = false := by simp; omega
  by_cases hx : 0 ≤ x
  · have e := Int.tmod_eq_emod_of_nonneg (b := n) hx
    have HE := hid_of e
    clear e
    have l1 := Int.emod_nonneg x (show n ≠ 0 by omega)
    have l2 := Int.emod_lt_of_pos x hn
    go_enter Tryd.func26, Tryd.ntmps26
    go_wp2
    go_ret
    exact ⟨rfl, rfl⟩
  · have e : x.tmod n = -((-x) % n) := by
      have h : x = -(-x) := by omega
      rw [h, Int.neg_tmod, Int.tmod_eq_emod_of_nonneg (by omega), Int.neg_neg]
    have l1 := Int.emod_nonneg (-x) (show n ≠ 0 by omega)
    have l2 := Int.emod_lt_of_pos (-x) hn
    have t1 : -n < x.tmod n := by omega
    have t2 : x.tmod n ≤ 0 := by omega
    have f : x % n = if x.tmod n < 0 then x.tmod n + n else x.tmod n := by
      rw [Int.emod_eq_tmod]
      by_cases hd : n ∣ x
      · have z := Int.tmod_eq_zero_of_dvd hd
        rw [if_pos (.inr hd), if_neg (by omega)]
        omega
      · have z : x.tmod n ≠ 0 := fun h => hd (Int.dvd_of_tmod_eq_zero h)
        rw [if_neg (by intro h; rcases h with h | h; exact hx h; exact hd h), if_pos (by omega)]
        omega
    have HF := hid_of f
    clear e l1 l2 f
    by_cases ht : x.tmod n < 0
    · go_enter Tryd.func26, Tryd.ntmps26
      go_wp2
      go_ret
      refine ⟨?_, rfl⟩
      rw [HF.out, if_pos ht]
      rfl
    · go_enter Tryd.func26, Tryd.ntmps26
      go_wp2
      go_ret
      refine ⟨?_, rfl⟩
      rw [HF.out, if_neg (by omega)]
      rfl

set_option maxHeartbeats 1000000 in
theorem fresh_any (x cp : Int) (w : World) (h0 : -9223372036854775808 ≤ x) (h1 : x ≤ 9223372036854775807) (h2 : 0 ≤ cp) (h3 : cp ≤ 67108864) : Calls Tryd.prog 7 #[.int .i64 x, .int .i64 cp] w fun e w' => e = .returned (.pointer (some ⟨w.heap.size, 0, none⟩)) ∧ w' = w.alloc (.cells ((Sg.new (1 + x % 32) cp).cells (.map none)) 63) := by
  have HR1 := hid_of (fun W => round_any x 32 W h0 h1 (by decide) (by decide))
  have HR2 := hid_of (fun W => round_any cp 67108865 W (by omega) (by omega) (by decide) (by decide))
  have hm : cp % 67108865 = cp := Int.emod_eq_of_lt h2 (by omega)
  rw [hm] at HR2
  have b1 := Int.emod_nonneg x (show (32 : Int) ≠ 0 by decide)
  have b2 := Int.emod_lt_of_pos x (show (0 : Int) < 32 by decide)
  have HN := hid_of (fun W => new_store (1 + x % 32) cp W (by omega) (by omega) h2 h3)
  have hwr : IntKind.i64.wrap (1 + x % 32) = 1 + x % 32 := by rw [IntKind.wrap_i64]; omega
  clear hm
  generalize x % 32 = y at *
  go_enter Tryd.func7, Tryd.ntmps7
  go_wp2_with fail
  refine (HR1.out _).mono ?_
  rintro e w1 ⟨rfl, rfl⟩
  go_wp2_with fail
  refine (HR2.out _).mono ?_
  rintro e w2 ⟨rfl, rfl⟩
  go_wp2_with fail
  refine (HN.out _).mono ?_
  rintro e w3 ⟨rfl, rfl⟩
  go_wp2
  go_ret
  exact ⟨rfl, rfl⟩
end Go.Proofs.YtjdbmjkidljhpaaDoor

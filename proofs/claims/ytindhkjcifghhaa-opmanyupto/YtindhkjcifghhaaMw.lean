/-
  OpMany: the walk.
-/
import Derived.Test.YtindhkjcifghhaaWe
import Derived.Test.YtindhkjcifghhaaWd
import Derived.Test.YtindhkjcifghhaaBz
namespace Go.Proofs.Ytindhkjcifghhaa
open Go.RowKit
set_option linter.unusedVariables false
set_option linter.unusedSimpArgs false
set_option maxRecDepth 100000



set_option maxHeartbeats 1000000 in
theorem round_any (x n : Int) (w : World) (h0 : -9223372036854775808 ≤ x) (h1 : x ≤ 9223372036854775807) (hn : 0 < n) (hn' : n ≤ 4611686018427387904) :
    Calls Try.prog 28 #[.int .i64 x, .int .i64 n] w fun e w' => e = .returned (.int .i64 (x % n)) ∧ w' = w := by
  have hz : (n == 0) = false := by simp; omega
  by_cases hx : 0 ≤ x
  · have e := Int.tmod_eq_emod_of_nonneg (b := n) hx
    have HE := hid_of e
    clear e
    have l1 := Int.emod_nonneg x (show n ≠ 0 by omega)
    have l2 := Int.emod_lt_of_pos x hn
    go_enter Try.func28, Try.ntmps28
    go_wp2
    go_ret
    exact ⟨rfl, rfl⟩
  · have e : x.tmod n = -((-x) % n) := by
      have h : x = -(-x) := by omega
      rw [h, Int.neg_tmod, Int.tmod_eq_emod_of_nonneg (by omega), Int.neg_neg]
    have l1 := Int.emod_nonneg (-x) (show n ≠ 0 by omega)
    have l2 := Int.emod_lt_of_pos (-x) hn
    have t1 : -n < x.tmod n := by omega
    have t2 : x.tmod n ≤ 0 := by omega
    have f : x % n = if x.tmod n < 0 then x.tmod n + n else x.tmod n := by
      rw [Int.emod_eq_tmod]
      by_cases hd : n ∣ x
      · have z := Int.tmod_eq_zero_of_dvd hd
        rw [if_pos (.inr hd), if_neg (by omega)]
        omega
      · have z : x.tmod n ≠ 0 := fun h => hd (Int.dvd_of_tmod_eq_zero h)
        rw [if_neg (by intro h; rcases h with h | h; exact hx h; exact hd h), if_pos (by omega)]
        omega
    have HF := hid_of f
    clear e l1 l2 f
    by_cases ht : x.tmod n < 0
    · go_enter Try.func28, Try.ntmps28
      go_wp2
      go_ret
      refine ⟨?_, rfl⟩
      rw [HF.out, if_pos ht]
      rfl
    · go_enter Try.func28, Try.ntmps28
      go_wp2
      go_ret
      refine ⟨?_, rfl⟩
      rw [HF.out, if_neg (by omega)]
      rfl
theorem zin_at (n i : Nat) (h : i < n) : (zin n)[i]? = some (.int .i64 0) := by
  have h2 : i % 2 = 0 ∨ i % 2 = 1 := by omega
  rcases h2 with h2 | h2 <;> simp [zin, madeCells, h, Value.cells, h2]
/-- So many nothings, one instruction in the place of one. -/
def codeL (n r : Nat) (x : IN) : List IN := (List.replicate n ⟨0, 0⟩).set r x
theorem codeL_len (n r : Nat) (x : IN) : (codeL n r x).length = n := by simp [codeL]
theorem codeL_ok (n r : Nat) (x : IN) (h : x.Ok) : ∀ y ∈ codeL n r x, y.Ok := by
  intro y hy
  rcases List.mem_or_eq_of_mem_set hy with hy | rfl
  · rw [List.mem_replicate] at hy
    rw [hy.2]
    exact ⟨by decide, by decide⟩
  · exact h
theorem code_row (w : World) (g n r : Nat) (x : IN) (hr : r < n) (hg : w.heap[g]? = some (.cells (zin (n * 2)) 52 (0, 0))) : RowI (w.setCells g (r * 2) x.cells) (.slice (some ⟨g, 0, none⟩) n n) (codeL n r x) := by
  refine .inr ⟨g, 0, n, by rw [codeL_len], fun i y hy => ?_⟩
  rw [Nat.zero_add]
  have hi : i < n := by
    have := (List.getElem?_eq_some_iff.1 hy).1
    rwa [codeL_len] at this
  have hth : w.there g (r * 2) x.cells.length := fun j hj => by
    have hj2 : j < 2 := hj
    refine ⟨?_, frozen_block _ _ _ _ _ hg⟩
    rw [cell_block _ _ _ _ _ _ hg, zin_at _ _ (by omega)]
    rfl
  by_cases e : i = r
  · subst e
    have : y = x := by simpa [codeL, hi] using hy.symm
    subst this
    exact World.rangeAt_setCells_same _ _ _ _ hth
  · have hy0 : y = ⟨0, 0⟩ := by
      rw [codeL, List.getElem?_set_ne (fun h => e h.symm), List.getElem?_replicate, if_pos hi] at hy
      exact (Option.some.inj hy).symm
    subst hy0
    refine World.rangeAt_setCells_apart (fun j v hv => ?_) _ _ _ (.inr ?_)
    · rw [cell_block _ _ _ _ _ _ hg]
      have hj : j < 2 := (List.getElem?_eq_some_iff.1 hv).1
      rw [zin_at _ _ (by omega)]
      match j, hv with
      | 0, hv => exact hv
      | 1, hv => exact hv
    · show i * 2 + 2 ≤ r * 2 ∨ r * 2 + 2 ≤ i * 2
      omega
theorem zer_list (n : Nat) : (zer n).toList = (rep n 0).map (Value.int .u8) := by
  apply List.ext_getElem?
  intro i
  by_cases h : i < n
  · rw [Array.getElem?_toList, zer_at n i h, List.getElem?_map, rep, List.getElem?_replicate, if_pos h]
    rfl
  · rw [Array.getElem?_toList, Array.getElem?_eq_none (by rw [zer_size]; omega), List.getElem?_eq_none (by simp [rep]; omega)]
theorem own_zer (w : World) (n base : Nat) (hb : base ≤ w.heap.size) (hn : n ≤ 100000) : (w.alloc (.cells (zer n) 5)).ownsRow base 5 1 (.slice (some ⟨w.heap.size, 0, none⟩) n n) n ((rep n 0).map (Value.int .u8)) :=
  ⟨by simp [rep], .inr ⟨w.heap.size, n, zer n, rfl, hb, heap_alloc_new _ _, Nat.le_refl _, by unfold maxLen; omega, by rw [zer_size]; omega, by rw [zer_list, Nat.mul_one]; exact List.take_of_length_le (by simp [rep])⟩⟩

set_option maxHeartbeats 16000000 in
theorem many_walk (many a : Int) (x : IN) (bo : Option Addr) (bc : Nat) (xs : List Int) (w : World) (hx : x.Ok) (hm0 : -9223372036854775808 ≤ many) (hm1 : many ≤ 9223372036854775807) (ha0 : -9223372036854775808 ≤ a) (ha1 : a ≤ 9223372036854775807) (hB : IsB w (.slice bo xs.length bc) xs) (hb : ∀ y ∈ xs, 0 ≤ y ∧ y ≤ 255) (hl : xs.length ≤ 1048576) :
    Calls Try.prog 6 #[.int .i64 many, .agg #[.int .i64 x.op, .int .i64 x.a], .int .i64 a, .slice bo xs.length bc] w fun e w' => e = .returned (.bool true) ∧ Kept (fun _ => False) w w' := by
  obtain ⟨nb, hnb⟩ : ∃ n, n = xs.length := ⟨_, rfl⟩
  have HNB := hid_of hnb
  have HB := hid_of hB
  have HBB := hid_of hb
  have HXO := hid_of hx
  rw [← hnb] at hl ⊢
  clear hB hb hx hnb
  have HK0 := hid_of ((Kept.refl (fun _ => False) w).alloc (.cells #[.int .i64 x.op, .int .i64 x.a] 52))
  have HX0 := hid_of (heap_alloc_new w (.cells #[.int .i64 x.op, .int .i64 x.a] 52))
  go_enter Try.func6, Try.ntmps6
  go_wp2_with fail
  generalize w.alloc _ = w0 at *
  refine (known_any w0).mono ?_
  rintro e w1 ⟨rfl, hk1⟩
  have HK1 := hid_of (HK0.out.trans hk1)
  have HX1 := hid_of (box_kept hk1 HX0.out (fun f => f))
  clear hk1 HK0 HX0
  go_wp2_with fail
  refine (round_any many 6 w1 hm0 hm1 (by decide) (by decide)).mono ?_
  rintro e w2 ⟨rfl, rfl⟩
  have r0 := Int.emod_nonneg many (show (6 : Int) ≠ 0 by decide)
  have r1 := Int.emod_lt_of_pos many (show (0 : Int) < 6 by decide)
  obtain ⟨q, hq⟩ : ∃ q : Nat, many % 6 = (q : Int) := ⟨(many % 6).toNat, by omega⟩
  rw [hq] at r0 r1 ⊢
  have hq6 : q < 6 := by omega
  clear hq hm0 hm1 r0 r1
  obtain ⟨n, hn⟩ : ∃ n : Nat, n = 4093 + q := ⟨_, rfl⟩
  have HNI : Hid ((4093 : Int) + (q : Int) = (n : Int)) := by unfold Hid; omega
  have hqI : (q : Int) < 6 := by omega
  have hq0 : (0 : Int) ≤ (q : Int) := by omega
  have hn1 : 4093 ≤ n ∧ n ≤ 4098 := by omega
  clear hn
  have mk := make_ins w2 n (by omega)
  have HX2 := hid_of (box_kept ((Kept.refl (fun _ => False) w2).alloc (.cells (zin (n * 2)) 52)) HX1.out (fun f => f))
  have HG2 := hid_of (heap_alloc_new w2 (.cells (zin (n * 2)) 52))
  have HK2 := hid_of (HK1.out.alloc (.cells (zin (n * 2)) 52))
  have HWG : Hid (w.heap.size < w2.heap.size) := (Array.getElem?_eq_some_iff.1 HX1.out).1
  clear HK1 HX1
  go_upto_region 4 with fail
  rw [HNI.out]
  go_upto_region 5 with fail
  clear mk
  generalize w2.alloc _ = w3 at *
  generalize w2.heap.size = g at *
  have r0 := Int.emod_nonneg a (show (n : Int) ≠ 0 by omega)
  have r1 := Int.emod_lt_of_pos a (show (0 : Int) < (n : Int) by omega)
  obtain ⟨rr, hrr⟩ : ∃ q : Nat, a % (n : Int) = (q : Int) := ⟨(a % (n : Int)).toNat, by omega⟩
  have hRD : ∀ W : World, Calls Try.prog 28 #[.int .i64 a, .int .i64 (n : Int)] W fun e w' => e = .returned (.int .i64 (rr : Int)) ∧ w' = W := fun W => by
    rw [← hrr]
    exact round_any a (n : Int) W ha0 ha1 (by omega) (by omega)
  have HRD := hid_of hRD
  have hrn : rr < n := by omega
  have hrI : (rr : Int) < (n : Int) := by omega
  have x0 : w3.cell? ⟨w.heap.size, 0, none⟩ = some (.int .i64 x.op) := by rw [cell_block _ _ _ _ _ _ HX2.out]; rfl
  have x1 : w3.cell? ⟨w.heap.size, 1, none⟩ = some (.int .i64 x.a) := by rw [cell_block _ _ _ _ _ _ HX2.out]; rfl
  have c0 : w3.cell? ⟨g, rr * 2, none⟩ = some (.int .i64 0) := by rw [cell_block _ _ _ _ _ _ HG2.out, zin_at _ _ (by omega)]
  have c1 : w3.cell? ⟨g, rr * 2 + 1, none⟩ = some (.int .i64 0) := by rw [cell_block _ _ _ _ _ _ HG2.out, zin_at _ _ (by omega)]
  have f0 : w3.frozen? ⟨g, rr * 2, none⟩ = false := frozen_block _ _ _ _ _ HG2.out
  have f1 : w3.frozen? ⟨g, rr * 2 + 1, none⟩ = false := frozen_block _ _ _ _ _ HG2.out
  have hgX : g ≠ w.heap.size := by have := HWG.out; omega
  clear hrr r0 r1 hRD ha0 ha1
  go_region_held3 (fun w' => w'.cell? ⟨w.heap.size, 0, none⟩ = some (.int .i64 x.op) ∧ w'.cell? ⟨w.heap.size, 1, none⟩ = some (.int .i64 x.a)) (first | exact ⟨x0, x1⟩ | assumption | go_keep)
    (first | (go_at_call 28; refine (HRD.out _).mono ?_; rintro e w' ⟨rfl, rfl⟩))
  have hrow4 : RowI ((w3.setCell ⟨g, rr * 2, none⟩ (.int .i64 x.op)).setCell ⟨g, rr * 2 + 1, none⟩ (.int .i64 x.a)).drew (.slice (some ⟨g, 0, none⟩) (codeL n rr x).length n) (codeL n rr x) := by
    rw [codeL_len]
    exact (code_row w3 g n rr x hrn HG2.out).kept (Kept.refl (fun _ => False) _).drew (fun _ _ f => f)
  have HK4 : Hid (Kept (fun _ => False) w ((w3.setCell ⟨g, rr * 2, none⟩ (.int .i64 x.op)).setCell ⟨g, rr * 2 + 1, none⟩ (.int .i64 x.a)).drew) := ((HK2.out.setCell (.inl (by show _ ≤ g; have := HWG.out; omega)) _).setCell (.inl (by show _ ≤ g; have := HWG.out; omega)) _).drew
  have HR4 := hid_of hrow4
  clear x0 x1 c0 c1 f0 f1 HRD HX2 HG2 HK2 hrow4
  generalize ((w3.setCell ⟨g, rr * 2, none⟩ (.int .i64 x.op)).setCell ⟨g, rr * 2 + 1, none⟩ (.int .i64 x.a)).drew = w4 at *
  have hcl := codeL_len n rr x
  have HCO := hid_of (codeL_ok n rr x HXO.out)
  generalize codeL n rr x = ys at *
  have hEW := encodes_walk (some ⟨g, 0, none⟩) n ys w4 HR4.out HCO.out (by omega)
  rw [hcl] at hEW
  have HEW := hid_of hEW
  have HCL := hid_of hcl
  clear hEW hcl
  go_wp2_with fail
  refine HEW.out.mono ?_
  rintro e w5 ⟨rfl, hk5⟩
  have HK5 := hid_of (HK4.out.trans hk5)
  have hER := encode_ref _ ys w5 (HR4.out.kept hk5 (fun _ _ f => f)) HCO.out (by rw [HCL.out]; omega)
  rw [HCL.out] at hER
  have HER := hid_of hER
  clear hk5 hER HEW HK4
  go_wp2_with fail
  refine HER.out.mono ?_
  rintro e w6 ⟨hk6, he6⟩
  have HK6 := hid_of (HK5.out.trans hk6)
  have hs5 : w.heap.size ≤ w5.heap.size := HK5.out.size
  clear hk6 HER
  by_cases hE : encE ys = 0
  · rw [if_pos hE] at he6
    obtain ⟨bv, rfl, hob⟩ := he6
    have HO7 := hid_of (own_less hob hs5)
    obtain ⟨b6, c6, hbv⟩ := ownsRow_shape hob
    obtain ⟨rb1, rb2⟩ := right_bytes HCO.out hE
    have HBY := hid_of rb1.1
    obtain ⟨n6, hn6⟩ : ∃ m, m = (encB ys).length := ⟨_, rfl⟩
    rw [← hn6] at HO7 hbv
    subst hbv
    have HLN := hid_of hn6.symm
    have hn6b : n6 ≤ 40960 := by omega
    have HK7 := HK6
    clear hob rb1 rb2 hn6
    generalize encB ys = be at *
    have hAP := app_any w6 (.slice b6 n6 c6) n6 w.heap.size be 36 (.slice bo nb bc) xs HO7.out (by rw [HNB.out]; exact HB.out.kept HK7.out (fun _ _ f => f)) HK7.out.size (by rw [← HNB.out]; omega)
    obtain ⟨v8, w8, hr8, ho8, hg8⟩ := hAP
    obtain ⟨o8, c8, hv8⟩ := ownsRow_shape ho8
    obtain ⟨n8, hn8⟩ : ∃ m, m = (be ++ xs).length := ⟨_, rfl⟩
    have hn8' : n6 + xs.length = n8 := by rw [hn8, List.length_append, HLN.out]
    rw [hn8'] at hv8 ho8
    subst hv8
    have HK8 := hid_of (HK7.out.grown hg8 (fun k hk => .inl (HO7.out.lt k hk).1))
    have hDW := decodes_walk o8 c8 (be ++ xs) w8 (by rw [← hn8]; exact isB_own ho8) ⟨fun y hy => by
      rcases List.mem_append.1 hy with h | h
      · exact HBY.out y h
      · exact HBB.out y h, by rw [← hn8, ← hn8', ← HNB.out]; omega⟩ (fun q hq => (ho8.lt q (by rw [hn8]; exact hq)).2)
    rw [← hn8] at hDW
    have HDW := hid_of hDW
    clear hDW ho8 hg8 hn8' hn8
    go_wp2_with (at_builtin; refine wp_app rfl (.tmp 38) (.tmp 39) 36 36 rfl _ _ rfl rfl _ w8 hr8 ?_)
    refine HDW.out.mono ?_
    rintro e w9 ⟨rfl, hk9⟩
    have HK9 := hid_of (HK8.out.trans hk9)
    clear hr8 hk9 HDW HK8
    go_wp2
    go_ret
    exact ⟨rfl, HK9.out⟩
  · rw [if_neg hE] at he6
    subst he6
    obtain ⟨ez, hez⟩ : ∃ f, f = encE ys := ⟨_, rfl⟩
    rw [← hez] at hE ⊢
    have hEb : (ez != 0) = true := by simpa using hE
    have mk := make_any w6 n (by omega)
    have HO7 := hid_of (own_zer w6 n w.heap.size HK6.out.size (by omega))
    have HK7 := hid_of (HK6.out.alloc (.cells (zer n) 5))
    have HBY : Hid (∀ y ∈ rep n 0, 0 ≤ y ∧ y ≤ 255) := fun y hy => by
      rw [rep, List.mem_replicate] at hy
      rw [hy.2]
      decide
    clear hez
    go_upto_region 11 with fail
    clear mk
    generalize w6.alloc _ = w7 at *
    generalize w6.heap.size = g7 at *
    have hAP := app_any w7 (.slice (some ⟨g7, 0, none⟩) n n) n w.heap.size (rep n 0) 36 (.slice bo nb bc) xs HO7.out (by rw [HNB.out]; exact HB.out.kept HK7.out (fun _ _ f => f)) HK7.out.size (by rw [← HNB.out]; omega)
    obtain ⟨v8, w8, hr8, ho8, hg8⟩ := hAP
    obtain ⟨o8, c8, hv8⟩ := ownsRow_shape ho8
    obtain ⟨n8, hn8⟩ : ∃ m, m = ((rep n 0) ++ xs).length := ⟨_, rfl⟩
    have hn8' : n + xs.length = n8 := by rw [hn8, List.length_append, rep_length]
    rw [hn8'] at hv8 ho8
    subst hv8
    have HK8 := hid_of (HK7.out.grown hg8 (fun k hk => .inl (HO7.out.lt k hk).1))
    have hDW := decodes_walk o8 c8 ((rep n 0) ++ xs) w8 (by rw [← hn8]; exact isB_own ho8) ⟨fun y hy => by
      rcases List.mem_append.1 hy with h | h
      · exact HBY.out y h
      · exact HBB.out y h, by rw [← hn8, ← hn8', ← HNB.out]; omega⟩ (fun q hq => (ho8.lt q (by rw [hn8]; exact hq)).2)
    rw [← hn8] at hDW
    have HDW := hid_of hDW
    clear hDW ho8 hg8 hn8' hn8
    go_wp2_with (at_builtin; refine wp_app rfl (.tmp 38) (.tmp 39) 36 36 rfl _ _ rfl rfl _ w8 hr8 ?_)
    refine HDW.out.mono ?_
    rintro e w9 ⟨rfl, hk9⟩
    have HK9 := hid_of (HK8.out.trans hk9)
    clear hr8 hk9 HDW HK8
    go_wp2
    go_ret
    exact ⟨rfl, HK9.out⟩
end Go.Proofs.Ytindhkjcifghhaa

/-
 The document's Put, by contract.
-/
import Derived.Test.YtjdbmjkidljhpaaGreatDoorTRly
import Derived.Test.YtjdbmjkidljhpaaGreatDoorTMk
import Derived.Test.YtjdbmjkidljhpaaGreatDoorTMd
namespace Go.Proofs.YtjdbmjkidljhpaaGreatDoor
open Go.RowKit
set_option linter.unusedVariables false
set_option linter.unusedSimpArgs false
set_option maxRecDepth 100000
theorem same4_any (v v' : Value) (xs ys : List Int) (w : World) (hx : BIn w v xs) (hy : BIn w v' ys) (hxr : ∀ x ∈ xs, 0 ≤ x ∧ x < 256) (hyr : ∀ x ∈ ys, 0 ≤ x ∧ x < 256) : Calls Tryz.prog 57 #[v, v'] w fun e w' => e = .returned (.bool (decide (xs = ys))) ∧ w' = w := by
 have s1 := conv_str w v xs hx
 have s2 := conv_str w v' ys hy
 have HE := hid_of (str_eq xs ys hxr hyr)
 obtain ⟨ao, c, rfl⟩ := hx.form
 obtain ⟨ao', c', rfl⟩ := hy.form
 generalize str xs = sx at *
 generalize str ys = sy at *
 generalize decide (xs = ys) = tb at *
 clear hx hy hxr hyr
 go_enter Tryz.func57, Tryz.ntmps57
 go_wp2
 go_ret
 exact ⟨by rw [← HE.out]; rfl, rfl⟩
set_option maxHeartbeats 16000000 in
theorem putr_same {w : World} {r : Nat} {lv : Value} {ρ : Rg} (h : Rst w r lv ρ) (k : Nat) (hk : ρ.wd = k) (h1 : 1 ≤ k) (h2 : k ≤ 32) (bv : Value) (xs : List Int) (hx : BIn w bv xs) (hxr : ∀ x ∈ xs, 0 ≤ x ∧ x < 256) (hn : xs.length ≤ 1048576) (hp0 : 0 ≤ ρ.pt) (hp1 : ρ.pt ≤ 1099511627776) (hl0 : 0 ≤ ρ.la) (hl1 : ρ.la ≤ 1099511627776) (hfew : ρ.l.length < 1000000) (b : Bl) (hf : findB ρ.l (frontOf k xs) = some b) (hq : b.xs = xs) : Calls Tryz.prog 34 #[.pointer (some ⟨r, 0, none⟩), bv] w fun e w' => e = .returned (.tuple #[dv (frontOf k xs), .int .i64 0]) ∧ Rst w' r lv ρ.put1 ∧ Kept (fun q => q = r) w w' := by
 obtain ⟨bo, bc, rfl⟩ := hx.form
 have hat := (findB_some hf).1
 have hlt := (List.getElem?_eq_some_iff.1 hat).1
 obtain ⟨g, c, hlv⟩ := row_some h.row (by omega)
 have hok := h.ok b (List.mem_of_getElem? hat)
 obtain ⟨bo', bc', hbv⟩ := hok.bin.form
 have HCL : Hid (∀ W, Rst W r lv ρ.put1 → W.cell? ⟨r, 3, none⟩ = some (.slice (some ⟨g, 0, none⟩) ρ.l.length c) ∧ W.cell? ⟨g, atB ρ.l (frontOf k xs) * 34 + 32, none⟩ = some (.slice bo' b.xs.length bc') ∧ BIn W (.slice bo' b.xs.length bc') b.xs) := fun W hW => by
  have hrow := hW.row
  have hc3 := hW.cell 3
  rw [hlv] at hrow hc3
  refine ⟨hc3, ?_, ?_⟩
  ·rw [← hbv]
   exact (Bl.range hok.len (row_get hrow hW.k32 hat)).2.1
  ·rw [← hbv]
   exact (hW.ok b (List.mem_of_getElem? hat)).bin
 have HSM : Hid (∀ W, BIn W (.slice bo' b.xs.length bc') b.xs → BIn W (.slice bo xs.length bc) xs → Calls Tryz.prog 57 #[.slice bo' b.xs.length bc', .slice bo xs.length bc] W fun e w' => e = .returned (.bool (decide (b.xs = xs))) ∧ w' = W) := fun W h3 h4 => same4_any _ _ _ _ W h3 h4 hok.rng hxr
 have HOF2 : Hid (∀ (W : World), BIn W (.slice bo' b.xs.length bc') b.xs → Calls Tryz.prog 38 #[.int .i64 (k : Int), .slice bo' b.xs.length bc'] W fun e w' => e = .returned (.agg ((frontOf k b.xs).map (Value.int .u8)).toArray) ∧ Kept (fun _ => False) W w') := fun W hv => rof4_any k h1 h2 _ _ W hv hok.rng (by have := hok.short; omega)
 have HEQ : Hid (∀ W : World, (Op.equalIn 10000 29 (.agg ((frontOf k b.xs).map (Value.int .u8)).toArray) (.agg ((frontOf k xs).map (Value.int .u8)).toArray)).run Tryz.prog W = .ok (decide (frontOf k b.xs = frontOf k xs)) W) := fun W => run_eq_arr W 9998 29 32 _ _ Tryz.underlying29 (frontOf_len k _ h2) (frontOf_len k _ h2)
 have HDS := hid_of (size29_arr (frontOf k xs) (frontOf_len k xs h2))
 have HOS : Hid (32 = ((frontOf k xs).map (Value.int .u8)).toArray.size) := by show 32 = _; simp [frontOf_len k xs h2]
 have hone := oneCells .u8 (frontOf k xs)
 have HZI : Hid ((Tryz.prog.info? 29).map (·.size) = some (z32 : Array Value).size) := size29
 have hzone : (z32 : Array Value).all (·.oneCell') = true := oneCells .u8 zeros32
 have HRZ : Hid (dv zeros32 = .agg z32) := rfl
 have HPL : Hid (∀ W, Rst W r lv ρ.put1 → Calls Tryz.prog 56 #[.pointer (some ⟨r, 0, none⟩), .agg ((frontOf k xs).map (Value.int .u8)).toArray] W fun e w' => e = .returned (.tuple #[.int .i64 (atB ρ.l (frontOf k xs) : Int), .bool (findB ρ.l (frontOf k xs)).isSome]) ∧ Kept (fun _ => False) W w') := fun W hW => place_any hW _ (frontOf_len k xs h2)
 have HOF : Hid (∀ (W : World), BIn W (.slice bo xs.length bc) xs → Calls Tryz.prog 38 #[.int .i64 (k : Int), .slice bo xs.length bc] W fun e w' => e = .returned (.agg ((frontOf k xs).map (Value.int .u8)).toArray) ∧ Kept (fun _ => False) W w') := fun W hv => rof4_any k h1 h2 _ _ W hv hxr (by omega)
 have HRM : Hid (∀ W, Rst W r lv ρ.put1 → Calls Tryz.prog 58 #[.pointer (some ⟨r, 0, none⟩), .agg ((frontOf k xs).map (Value.int .u8)).toArray, .int .i64 (xs.length : Int)] W fun e w' => e = .returned (.bool (roomB ρ (frontOf k xs) xs.length)) ∧ Kept (fun _ => False) W w') := fun W hW => room_ref hW _ (frontOf_len k xs h2) xs.length hn
 have HLY : Hid (∀ W, Rst W r lv ρ.put1 → BIn W (.slice bo xs.length bc) xs → Calls Tryz.prog 59 #[.pointer (some ⟨r, 0, none⟩), .agg ((frontOf k xs).map (Value.int .u8)).toArray, .slice bo xs.length bc] W fun e w' => (∃ v, e = .returned v) ∧ LayR W w' r lv ρ.put1 (frontOf k xs) xs) := fun W hW hv => lay_ref hW _ (frontOf_len k xs h2) (front_range k xs h2) _ xs hv hxr hn hl0 hl1 hfew
 have c5 : w.cell? ⟨r, 5, none⟩ = some (.int .i64 ρ.pt) := h.cell 5
 have f5 := h.fz 5
 have c0 : w.cell? ⟨r, 0, none⟩ = some (.int .i64 (k : Int)) := by rw [← hk]; exact h.cell 0
 have hrl := h.lt
 have hwp : IntKind.i64.wrap (ρ.pt + 1) = ρ.pt + 1 := by rw [IntKind.wrap_i64]; omega
 obtain ⟨hS1, hK1⟩ := h.set (ρ' := ρ.put1) 5 (.int .i64 (ρ.pt + 1)) rfl rfl
 have HKA : Hid (Kept (fun k => k = r) w ((w.setCell ⟨r, 5, none⟩ (.int .i64 (ρ.pt + 1))).alloc (.cells z32 29))) := hK1.alloc _
 have HRA : Hid (Rst ((w.setCell ⟨r, 5, none⟩ (.int .i64 (ρ.pt + 1))).alloc (.cells z32 29)) r lv ρ.put1) := hS1.same ((Kept.refl _ _).alloc _)
 have hsz : (w.setCell ⟨r, 5, none⟩ (.int .i64 (ρ.pt + 1))).heap.size = w.heap.size := by simp [World.setCell]
 have HZA : Hid (((w.setCell ⟨r, 5, none⟩ (.int .i64 (ρ.pt + 1))).alloc (.cells z32 29)).heap[w.heap.size]? = some (.cells z32 29 (0, 0))) := by
  have := alloc_new (w.setCell ⟨r, 5, none⟩ (.int .i64 (ρ.pt + 1))) (.cells z32 29) rfl
  rw [hsz] at this
  exact this
 have HXA := hid_of (hx.kept2 HKA.out (fun hx0 g hg => h.notr hx hx0 g hg))
 have hPN : ¬ (1048576 : Int) < (xs.length : Int) := by omega
 have HRL : Hid (r < w.heap.size) := h.lt
 have HLVL : Hid (∀ q, lv.ownBlock = some q → q < w.heap.size) := h.bl
 have HOLD : Hid (∀ b ∈ ρ.l, b.xs ≠ [] → ∀ q, b.bv.ownBlock = some q → q < w.heap.size) := fun b hb h0 q hq => (h.ok b hb).bin.below h0 q hq
 have HWD : Hid (∀ W, Rst W r lv ρ.put1 → W.cell? ⟨r, 0, none⟩ = some (.int .i64 (k : Int))) := fun W hW => by rw [← hk]; exact hW.cell 0
 have HFL := hid_of (frontOf_len k xs h2)
 rw [hf] at HPL
 rw [decide_eq_true hq] at HSM
 unfold dv
 clear h hx hS1 hK1 hsz hk hf hq hat hok hbv hlv
 obtain ⟨kk, hkk⟩ : ∃ q, q = atB ρ.l (frontOf k xs) := ⟨_, rfl⟩
 obtain ⟨n, hnn⟩ : ∃ q, q = ρ.l.length := ⟨_, rfl⟩
 rw [← hkk] at HCL HPL hlt
 rw [← hnn] at HCL hlt
 have hltI : (kk : Int) < (n : Int) := by omega
 clear hkk hlt hnn
 generalize ((frontOf k b.xs).map (Value.int .u8)).toArray = fs at *
 generalize ((frontOf k xs).map (Value.int .u8)).toArray = ds at *
 go_enter Tryz.func34, Tryz.ntmps34
 go_wp2_with fail
 clear c0 c5 f5
 generalize (w.setCell ⟨r, 5, none⟩ (.int .i64 (ρ.pt + 1))).alloc (.cells z32 29) = wA at *
 refine (HOF.out wA HXA.out).mono ?_
 rintro e w1 ⟨rfl, hk1⟩
 have HRB := hid_of (HRA.out.same (hk1.alloc (.cells ds 29)))
 have HKB : Hid (Kept (fun k => k = r) w (w1.alloc (.cells ds 29))) := (HKA.out.trans (hk1.mono (fun _ _ f => f.elim))).alloc _
 have HZB : Hid ((w1.alloc (.cells ds 29)).heap[w.heap.size]? = some (.cells z32 29 (0, 0))) := ((hk1.alloc (.cells ds 29)).block _ (heap_lt HZA.out) (fun f => f)).trans HZA.out
 have HDB : Hid ((w1.alloc (.cells ds 29)).heap[w1.heap.size]? = some (.cells ds 29 (0, 0))) := alloc_new _ _ rfl
 have HXB : Hid (BIn (w1.alloc (.cells ds 29)) (.slice bo xs.length bc) xs) := HXA.out.kept2 (hk1.alloc _) (fun _ _ _ f => f)
 have hb6 : w.heap.size < w1.heap.size := Nat.lt_of_lt_of_le (heap_lt HZA.out) hk1.size
 clear hk1 HOF HRA HKA HZA HXA
 go_wp2_with (first | (refine wpList_store_row rfl 29 _ _ rfl w1.heap.size ds rfl rfl 29 _ (alloc_new _ _ rfl) HDS.out HOS.out hone ?_; rw [setRow_new _ _ _ _ rfl]) | refine wpList_load_row rfl 29 _ rfl w1.heap.size rfl 29 ds (0, 0) _ HDB.out Tryz.underlying29 rfl HDS.out ?_)
 refine (HPL.out _ HRB.out).mono ?_
 rintro e w3 ⟨rfl, hk3⟩
 have HR3 := hid_of (HRB.out.same hk3)
 have HK3 : Hid (Kept (fun k => k = r) w w3) := HKB.out.trans (hk3.mono (fun _ _ f => f.elim))
 have HZ3 : Hid (w3.heap[w.heap.size]? = some (.cells z32 29 (0, 0))) := (hk3.block _ (heap_lt HZB.out) (fun f => f)).trans HZB.out
 have HD3 : Hid (w3.heap[w1.heap.size]? = some (.cells ds 29 (0, 0))) := (hk3.block _ (heap_lt HDB.out) (fun f => f)).trans HDB.out
 have HX3 : Hid (BIn w3 (.slice bo xs.length bc) xs) := HXB.out.kept2 hk3 (fun _ _ _ f => f)
 clear hk3 HPL HRB HKB HZB HDB HXB
 obtain ⟨b6, hb6e⟩ : ∃ q, q = w1.heap.size := ⟨_, rfl⟩
 rw [← hb6e] at HD3 hb6 ⊢
 clear hb6e
 obtain ⟨q3, q4, q5⟩ := HCL.out w3 HR3.out
 have HBB := hid_of q5
 clear q5
 go_wp2_with fail
 refine (HSM.out _ HBB.out HX3.out).mono ?_
 rintro e w4 ⟨rfl, hw4⟩
 have hw4' := hw4.symm
 subst hw4'
 clear hw4 HBB HSM
 clear q3 q4
 have HKR := hid_of (kept_rowx w3 w.heap.size ds)
 have HRR := hid_of (setRow_heap w3 w.heap.size _ ds 29 (0, 0) HZ3.out)
 have HRF : Hid (Rst (w3.setRow w.heap.size ds) r lv ρ.put1) := HR3.out.kept HKR.out (fun q hq e => by rcases hq with rfl | hq; exact absurd e (Nat.ne_of_lt HRL.out); exact absurd (HLVL.out q hq) (by omega)) (fun b hb h0 q hq e => by have := HOLD.out b hb h0 q hq; omega)
 have HKF : Hid (Kept (fun k => k = r) w (w3.setRow w.heap.size ds)) := HK3.out.setRow (.inl (Nat.le_refl _)) _
 go_wp2_with (first | refine wpList_load_row rfl 29 _ rfl b6 rfl 29 ds (0, 0) _ HD3.out Tryz.underlying29 rfl HDS.out ?_ | refine wpList_store_row rfl 29 _ _ rfl w.heap.size ds rfl rfl 29 _ HZ3.out HDS.out HOS.out hone ?_)
 try simp only [Act.put]
 refine bodyPost_ret (v := .tuple #[.agg ds, .int .i64 0]) ?_ rfl ⟨rfl, HRF.out, HKF.out⟩
 exact results_row_tmp (fn := Tryz.f34) (p := 4) (u := 5) (by rfl) _ _ w.heap.size 29 ds (0, 0) _ (by rfl) HRR.out Tryz.underlying29 rfl HDS.out
set_option maxHeartbeats 16000000 in
theorem putr_clash {w : World} {r : Nat} {lv : Value} {ρ : Rg} (h : Rst w r lv ρ) (k : Nat) (hk : ρ.wd = k) (h1 : 1 ≤ k) (h2 : k ≤ 32) (bv : Value) (xs : List Int) (hx : BIn w bv xs) (hxr : ∀ x ∈ xs, 0 ≤ x ∧ x < 256) (hn : xs.length ≤ 1048576) (hp0 : 0 ≤ ρ.pt) (hp1 : ρ.pt ≤ 1099511627776) (hl0 : 0 ≤ ρ.la) (hl1 : ρ.la ≤ 1099511627776) (hfew : ρ.l.length < 1000000) (b : Bl) (hf : findB ρ.l (frontOf k xs) = some b) (hq : b.xs ≠ xs) (hw : frontOf k b.xs = frontOf k xs) : Calls Tryz.prog 34 #[.pointer (some ⟨r, 0, none⟩), bv] w fun e w' => e = .returned (.tuple #[dv zeros32, .int .i64 44]) ∧ Rst w' r lv ρ.put1 ∧ Kept (fun q => q = r) w w' := by
 obtain ⟨bo, bc, rfl⟩ := hx.form
 have hat := (findB_some hf).1
 have hlt := (List.getElem?_eq_some_iff.1 hat).1
 obtain ⟨g, c, hlv⟩ := row_some h.row (by omega)
 have hok := h.ok b (List.mem_of_getElem? hat)
 obtain ⟨bo', bc', hbv⟩ := hok.bin.form
 have HCL : Hid (∀ W, Rst W r lv ρ.put1 → W.cell? ⟨r, 3, none⟩ = some (.slice (some ⟨g, 0, none⟩) ρ.l.length c) ∧ W.cell? ⟨g, atB ρ.l (frontOf k xs) * 34 + 32, none⟩ = some (.slice bo' b.xs.length bc') ∧ BIn W (.slice bo' b.xs.length bc') b.xs) := fun W hW => by
  have hrow := hW.row
  have hc3 := hW.cell 3
  rw [hlv] at hrow hc3
  refine ⟨hc3, ?_, ?_⟩
  ·rw [← hbv]
   exact (Bl.range hok.len (row_get hrow hW.k32 hat)).2.1
  ·rw [← hbv]
   exact (hW.ok b (List.mem_of_getElem? hat)).bin
 have HSM : Hid (∀ W, BIn W (.slice bo' b.xs.length bc') b.xs → BIn W (.slice bo xs.length bc) xs → Calls Tryz.prog 57 #[.slice bo' b.xs.length bc', .slice bo xs.length bc] W fun e w' => e = .returned (.bool (decide (b.xs = xs))) ∧ w' = W) := fun W h3 h4 => same4_any _ _ _ _ W h3 h4 hok.rng hxr
 have HOF2 : Hid (∀ (W : World), BIn W (.slice bo' b.xs.length bc') b.xs → Calls Tryz.prog 38 #[.int .i64 (k : Int), .slice bo' b.xs.length bc'] W fun e w' => e = .returned (.agg ((frontOf k b.xs).map (Value.int .u8)).toArray) ∧ Kept (fun _ => False) W w') := fun W hv => rof4_any k h1 h2 _ _ W hv hok.rng (by have := hok.short; omega)
 have HEQ : Hid (∀ W : World, (Op.equalIn 10000 29 (.agg ((frontOf k b.xs).map (Value.int .u8)).toArray) (.agg ((frontOf k xs).map (Value.int .u8)).toArray)).run Tryz.prog W = .ok (decide (frontOf k b.xs = frontOf k xs)) W) := fun W => run_eq_arr W 9998 29 32 _ _ Tryz.underlying29 (frontOf_len k _ h2) (frontOf_len k _ h2)
 have HDS := hid_of (size29_arr (frontOf k xs) (frontOf_len k xs h2))
 have HOS : Hid (32 = ((frontOf k xs).map (Value.int .u8)).toArray.size) := by show 32 = _; simp [frontOf_len k xs h2]
 have hone := oneCells .u8 (frontOf k xs)
 have HZI : Hid ((Tryz.prog.info? 29).map (·.size) = some (z32 : Array Value).size) := size29
 have hzone : (z32 : Array Value).all (·.oneCell') = true := oneCells .u8 zeros32
 have HRZ : Hid (dv zeros32 = .agg z32) := rfl
 have HPL : Hid (∀ W, Rst W r lv ρ.put1 → Calls Tryz.prog 56 #[.pointer (some ⟨r, 0, none⟩), .agg ((frontOf k xs).map (Value.int .u8)).toArray] W fun e w' => e = .returned (.tuple #[.int .i64 (atB ρ.l (frontOf k xs) : Int), .bool (findB ρ.l (frontOf k xs)).isSome]) ∧ Kept (fun _ => False) W w') := fun W hW => place_any hW _ (frontOf_len k xs h2)
 have HOF : Hid (∀ (W : World), BIn W (.slice bo xs.length bc) xs → Calls Tryz.prog 38 #[.int .i64 (k : Int), .slice bo xs.length bc] W fun e w' => e = .returned (.agg ((frontOf k xs).map (Value.int .u8)).toArray) ∧ Kept (fun _ => False) W w') := fun W hv => rof4_any k h1 h2 _ _ W hv hxr (by omega)
 have HRM : Hid (∀ W, Rst W r lv ρ.put1 → Calls Tryz.prog 58 #[.pointer (some ⟨r, 0, none⟩), .agg ((frontOf k xs).map (Value.int .u8)).toArray, .int .i64 (xs.length : Int)] W fun e w' => e = .returned (.bool (roomB ρ (frontOf k xs) xs.length)) ∧ Kept (fun _ => False) W w') := fun W hW => room_ref hW _ (frontOf_len k xs h2) xs.length hn
 have HLY : Hid (∀ W, Rst W r lv ρ.put1 → BIn W (.slice bo xs.length bc) xs → Calls Tryz.prog 59 #[.pointer (some ⟨r, 0, none⟩), .agg ((frontOf k xs).map (Value.int .u8)).toArray, .slice bo xs.length bc] W fun e w' => (∃ v, e = .returned v) ∧ LayR W w' r lv ρ.put1 (frontOf k xs) xs) := fun W hW hv => lay_ref hW _ (frontOf_len k xs h2) (front_range k xs h2) _ xs hv hxr hn hl0 hl1 hfew
 have c5 : w.cell? ⟨r, 5, none⟩ = some (.int .i64 ρ.pt) := h.cell 5
 have f5 := h.fz 5
 have c0 : w.cell? ⟨r, 0, none⟩ = some (.int .i64 (k : Int)) := by rw [← hk]; exact h.cell 0
 have hrl := h.lt
 have hwp : IntKind.i64.wrap (ρ.pt + 1) = ρ.pt + 1 := by rw [IntKind.wrap_i64]; omega
 obtain ⟨hS1, hK1⟩ := h.set (ρ' := ρ.put1) 5 (.int .i64 (ρ.pt + 1)) rfl rfl
 have HKA : Hid (Kept (fun k => k = r) w ((w.setCell ⟨r, 5, none⟩ (.int .i64 (ρ.pt + 1))).alloc (.cells z32 29))) := hK1.alloc _
 have HRA : Hid (Rst ((w.setCell ⟨r, 5, none⟩ (.int .i64 (ρ.pt + 1))).alloc (.cells z32 29)) r lv ρ.put1) := hS1.same ((Kept.refl _ _).alloc _)
 have hsz : (w.setCell ⟨r, 5, none⟩ (.int .i64 (ρ.pt + 1))).heap.size = w.heap.size := by simp [World.setCell]
 have HZA : Hid (((w.setCell ⟨r, 5, none⟩ (.int .i64 (ρ.pt + 1))).alloc (.cells z32 29)).heap[w.heap.size]? = some (.cells z32 29 (0, 0))) := by
  have := alloc_new (w.setCell ⟨r, 5, none⟩ (.int .i64 (ρ.pt + 1))) (.cells z32 29) rfl
  rw [hsz] at this
  exact this
 have HXA := hid_of (hx.kept2 HKA.out (fun hx0 g hg => h.notr hx hx0 g hg))
 have hPN : ¬ (1048576 : Int) < (xs.length : Int) := by omega
 have HRL : Hid (r < w.heap.size) := h.lt
 have HLVL : Hid (∀ q, lv.ownBlock = some q → q < w.heap.size) := h.bl
 have HOLD : Hid (∀ b ∈ ρ.l, b.xs ≠ [] → ∀ q, b.bv.ownBlock = some q → q < w.heap.size) := fun b hb h0 q hq => (h.ok b hb).bin.below h0 q hq
 have HWD : Hid (∀ W, Rst W r lv ρ.put1 → W.cell? ⟨r, 0, none⟩ = some (.int .i64 (k : Int))) := fun W hW => by rw [← hk]; exact hW.cell 0
 have HFL := hid_of (frontOf_len k xs h2)
 rw [hf] at HPL
 rw [decide_eq_false hq] at HSM
 rw [decide_eq_true hw] at HEQ
 clear h hx hS1 hK1 hsz hk hf hq hat hok hbv hlv
 obtain ⟨kk, hkk⟩ : ∃ q, q = atB ρ.l (frontOf k xs) := ⟨_, rfl⟩
 obtain ⟨n, hnn⟩ : ∃ q, q = ρ.l.length := ⟨_, rfl⟩
 rw [← hkk] at HCL HPL hlt
 rw [← hnn] at HCL hlt
 have hltI : (kk : Int) < (n : Int) := by omega
 clear hkk hlt hnn
 generalize ((frontOf k b.xs).map (Value.int .u8)).toArray = fs at *
 generalize ((frontOf k xs).map (Value.int .u8)).toArray = ds at *
 go_enter Tryz.func34, Tryz.ntmps34
 go_wp2_with fail
 clear c0 c5 f5
 generalize (w.setCell ⟨r, 5, none⟩ (.int .i64 (ρ.pt + 1))).alloc (.cells z32 29) = wA at *
 refine (HOF.out wA HXA.out).mono ?_
 rintro e w1 ⟨rfl, hk1⟩
 have HRB := hid_of (HRA.out.same (hk1.alloc (.cells ds 29)))
 have HKB : Hid (Kept (fun k => k = r) w (w1.alloc (.cells ds 29))) := (HKA.out.trans (hk1.mono (fun _ _ f => f.elim))).alloc _
 have HZB : Hid ((w1.alloc (.cells ds 29)).heap[w.heap.size]? = some (.cells z32 29 (0, 0))) := ((hk1.alloc (.cells ds 29)).block _ (heap_lt HZA.out) (fun f => f)).trans HZA.out
 have HDB : Hid ((w1.alloc (.cells ds 29)).heap[w1.heap.size]? = some (.cells ds 29 (0, 0))) := alloc_new _ _ rfl
 have HXB : Hid (BIn (w1.alloc (.cells ds 29)) (.slice bo xs.length bc) xs) := HXA.out.kept2 (hk1.alloc _) (fun _ _ _ f => f)
 have hb6 : w.heap.size < w1.heap.size := Nat.lt_of_lt_of_le (heap_lt HZA.out) hk1.size
 clear hk1 HOF HRA HKA HZA HXA
 go_wp2_with (first | (refine wpList_store_row rfl 29 _ _ rfl w1.heap.size ds rfl rfl 29 _ (alloc_new _ _ rfl) HDS.out HOS.out hone ?_; rw [setRow_new _ _ _ _ rfl]) | refine wpList_load_row rfl 29 _ rfl w1.heap.size rfl 29 ds (0, 0) _ HDB.out Tryz.underlying29 rfl HDS.out ?_)
 refine (HPL.out _ HRB.out).mono ?_
 rintro e w3 ⟨rfl, hk3⟩
 have HR3 := hid_of (HRB.out.same hk3)
 have HK3 : Hid (Kept (fun k => k = r) w w3) := HKB.out.trans (hk3.mono (fun _ _ f => f.elim))
 have HZ3 : Hid (w3.heap[w.heap.size]? = some (.cells z32 29 (0, 0))) := (hk3.block _ (heap_lt HZB.out) (fun f => f)).trans HZB.out
 have HD3 : Hid (w3.heap[w1.heap.size]? = some (.cells ds 29 (0, 0))) := (hk3.block _ (heap_lt HDB.out) (fun f => f)).trans HDB.out
 have HX3 : Hid (BIn w3 (.slice bo xs.length bc) xs) := HXB.out.kept2 hk3 (fun _ _ _ f => f)
 clear hk3 HPL HRB HKB HZB HDB HXB
 obtain ⟨b6, hb6e⟩ : ∃ q, q = w1.heap.size := ⟨_, rfl⟩
 rw [← hb6e] at HD3 hb6 ⊢
 clear hb6e
 obtain ⟨q3, q4, q5⟩ := HCL.out w3 HR3.out
 have HBB := hid_of q5
 clear q5
 go_wp2_with fail
 refine (HSM.out _ HBB.out HX3.out).mono ?_
 rintro e w4 ⟨rfl, hw4⟩
 have hw4' := hw4.symm
 subst hw4'
 clear hw4 HBB HSM
 clear q3 q4
 go_upto_region 8 with fail
 refine wp_region_held_drew (S := fun w' => Kept (fun _ => False) w3 w') (by kernel_rfl) ((Kept.refl _ _).drew) (fun hHeld => ?_)
 iterate 14
  refine tkn (v := ?_) 0 rfl ?_ ?_; rotate_left 1
  ·intro w hSw; obtain ⟨q3, q4, q5⟩ := HCL.out w (HR3.out.same hSw); have q0 := HWD.out w (HR3.out.same hSw); clear q5; go_simp; try with_reducible rfl
  try simp only [Act.put, tdy]
 refine tkg 15 (.agg ds) rfl (yields_row (by rfl) 29 _ rfl b6 rfl _ _ _ _ (fun w hSw => (hSw.block _ (heap_lt HD3.out) (fun f => f)).trans HD3.out) Tryz.underlying29 rfl HDS.out) ?_
 try simp only [Act.put, tdy]
 refine wpAnyH_ready (rs := [14]) (by kernel_rfl) (by simp) ?_
 refine AllReadyH.cons rfl (fun K hK => ?_) .nil
 go_simp
 refine (HOF2.out _ (HCL.out _ (HR3.out.same ((Kept.refl _ _).drew))).2.2).mono ?_
 rintro e w5 ⟨rfl, hk5⟩
 have HK35 := hid_of (((Kept.refl (fun _ => False) w3).drew).trans hk5)
 refine hK.out _ _ HK35.out (fun hHeld => ?_)
 clear hK K hk5
 try simp only [Act.put, tdy]
 refine tkp (v := ?_) 16 rfl ?_ ?_; rotate_left 1
 ·intro w hSw; have hq := HEQ.out w; go_simp; try with_reducible rfl
 try simp only [Act.put, tdy]
 refine tkp (v := ?_) 17 rfl ?_ ?_; rotate_left 1
 ·intro w hSw; go_simp; try with_reducible rfl
 try simp only [Act.put, tdy]
 refine wpAnyH_done (by kernel_rfl) ?_ _
 have HR5 := hid_of (HR3.out.same HK35.out)
 have HK5 : Hid (Kept (fun k => k = r) w w5) := HK3.out.trans (HK35.out.mono (fun _ _ f => f.elim))
 have HZ5 : Hid (w5.heap[w.heap.size]? = some (.cells z32 29 (0, 0))) := (HK35.out.block _ (heap_lt HZ3.out) (fun f => f)).trans HZ3.out
 have HD5 : Hid (w5.heap[b6]? = some (.cells ds 29 (0, 0))) := (HK35.out.block _ (heap_lt HD3.out) (fun f => f)).trans HD3.out
 have HX5 : Hid (BIn w5 (.slice bo xs.length bc) xs) := HX3.out.kept2 HK35.out (fun _ _ _ f => f)
 clear hHeld HK35 HR3 HK3 HZ3 HD3 HX3
 have HKR := hid_of (kept_rowx w5 w.heap.size z32)
 have HRR := hid_of (setRow_heap w5 w.heap.size _ z32 29 (0, 0) HZ5.out)
 have HRF : Hid (Rst (w5.setRow w.heap.size z32) r lv ρ.put1) := HR5.out.kept HKR.out (fun q hq e => by rcases hq with rfl | hq; exact absurd e (Nat.ne_of_lt HRL.out); exact absurd (HLVL.out q hq) (by omega)) (fun b hb h0 q hq e => by have := HOLD.out b hb h0 q hq; omega)
 have HKF : Hid (Kept (fun k => k = r) w (w5.setRow w.heap.size z32)) := HK5.out.setRow (.inl (Nat.le_refl _)) _
 go_wp2_with (first | refine wpList_load_row rfl 29 _ rfl b6 rfl 29 ds (0, 0) _ HD5.out Tryz.underlying29 rfl HDS.out ?_ | refine wpList_store_row rfl 29 _ _ rfl w.heap.size z32 rfl rfl 29 _ HZ5.out HZI.out rfl hzone ?_)
 try simp only [Act.put]
 refine bodyPost_ret (v := .tuple #[.agg z32, .int .i64 44]) ?_ rfl ⟨by rw [HRZ.out], HRF.out, HKF.out⟩
 exact results_row_tmp (fn := Tryz.f34) (p := 4) (u := 5) (by rfl) _ _ w.heap.size 29 z32 (0, 0) _ (by rfl) HRR.out Tryz.underlying29 rfl HZI.out
set_option maxHeartbeats 16000000 in
theorem putr_full0 {w : World} {r : Nat} {lv : Value} {ρ : Rg} (h : Rst w r lv ρ) (k : Nat) (hk : ρ.wd = k) (h1 : 1 ≤ k) (h2 : k ≤ 32) (bv : Value) (xs : List Int) (hx : BIn w bv xs) (hxr : ∀ x ∈ xs, 0 ≤ x ∧ x < 256) (hn : xs.length ≤ 1048576) (hp0 : 0 ≤ ρ.pt) (hp1 : ρ.pt ≤ 1099511627776) (hl0 : 0 ≤ ρ.la) (hl1 : ρ.la ≤ 1099511627776) (hfew : ρ.l.length < 1000000) (hf : findB ρ.l (frontOf k xs) = none) (hr : roomB ρ (frontOf k xs) xs.length = false) : Calls Tryz.prog 34 #[.pointer (some ⟨r, 0, none⟩), bv] w fun e w' => e = .returned (.tuple #[dv zeros32, .int .i64 43]) ∧ Rst w' r lv ρ.put1 ∧ Kept (fun q => q = r) w w' := by
 obtain ⟨bo, bc, rfl⟩ := hx.form
 have HDS := hid_of (size29_arr (frontOf k xs) (frontOf_len k xs h2))
 have HOS : Hid (32 = ((frontOf k xs).map (Value.int .u8)).toArray.size) := by show 32 = _; simp [frontOf_len k xs h2]
 have hone := oneCells .u8 (frontOf k xs)
 have HZI : Hid ((Tryz.prog.info? 29).map (·.size) = some (z32 : Array Value).size) := size29
 have hzone : (z32 : Array Value).all (·.oneCell') = true := oneCells .u8 zeros32
 have HRZ : Hid (dv zeros32 = .agg z32) := rfl
 have HPL : Hid (∀ W, Rst W r lv ρ.put1 → Calls Tryz.prog 56 #[.pointer (some ⟨r, 0, none⟩), .agg ((frontOf k xs).map (Value.int .u8)).toArray] W fun e w' => e = .returned (.tuple #[.int .i64 (atB ρ.l (frontOf k xs) : Int), .bool (findB ρ.l (frontOf k xs)).isSome]) ∧ Kept (fun _ => False) W w') := fun W hW => place_any hW _ (frontOf_len k xs h2)
 have HOF : Hid (∀ (W : World), BIn W (.slice bo xs.length bc) xs → Calls Tryz.prog 38 #[.int .i64 (k : Int), .slice bo xs.length bc] W fun e w' => e = .returned (.agg ((frontOf k xs).map (Value.int .u8)).toArray) ∧ Kept (fun _ => False) W w') := fun W hv => rof4_any k h1 h2 _ _ W hv hxr (by omega)
 have HRM : Hid (∀ W, Rst W r lv ρ.put1 → Calls Tryz.prog 58 #[.pointer (some ⟨r, 0, none⟩), .agg ((frontOf k xs).map (Value.int .u8)).toArray, .int .i64 (xs.length : Int)] W fun e w' => e = .returned (.bool (roomB ρ (frontOf k xs) xs.length)) ∧ Kept (fun _ => False) W w') := fun W hW => room_ref hW _ (frontOf_len k xs h2) xs.length hn
 have HLY : Hid (∀ W, Rst W r lv ρ.put1 → BIn W (.slice bo xs.length bc) xs → Calls Tryz.prog 59 #[.pointer (some ⟨r, 0, none⟩), .agg ((frontOf k xs).map (Value.int .u8)).toArray, .slice bo xs.length bc] W fun e w' => (∃ v, e = .returned v) ∧ LayR W w' r lv ρ.put1 (frontOf k xs) xs) := fun W hW hv => lay_ref hW _ (frontOf_len k xs h2) (front_range k xs h2) _ xs hv hxr hn hl0 hl1 hfew
 have c5 : w.cell? ⟨r, 5, none⟩ = some (.int .i64 ρ.pt) := h.cell 5
 have f5 := h.fz 5
 have c0 : w.cell? ⟨r, 0, none⟩ = some (.int .i64 (k : Int)) := by rw [← hk]; exact h.cell 0
 have hrl := h.lt
 have hwp : IntKind.i64.wrap (ρ.pt + 1) = ρ.pt + 1 := by rw [IntKind.wrap_i64]; omega
 obtain ⟨hS1, hK1⟩ := h.set (ρ' := ρ.put1) 5 (.int .i64 (ρ.pt + 1)) rfl rfl
 have HKA : Hid (Kept (fun k => k = r) w ((w.setCell ⟨r, 5, none⟩ (.int .i64 (ρ.pt + 1))).alloc (.cells z32 29))) := hK1.alloc _
 have HRA : Hid (Rst ((w.setCell ⟨r, 5, none⟩ (.int .i64 (ρ.pt + 1))).alloc (.cells z32 29)) r lv ρ.put1) := hS1.same ((Kept.refl _ _).alloc _)
 have hsz : (w.setCell ⟨r, 5, none⟩ (.int .i64 (ρ.pt + 1))).heap.size = w.heap.size := by simp [World.setCell]
 have HZA : Hid (((w.setCell ⟨r, 5, none⟩ (.int .i64 (ρ.pt + 1))).alloc (.cells z32 29)).heap[w.heap.size]? = some (.cells z32 29 (0, 0))) := by
  have := alloc_new (w.setCell ⟨r, 5, none⟩ (.int .i64 (ρ.pt + 1))) (.cells z32 29) rfl
  rw [hsz] at this
  exact this
 have HXA := hid_of (hx.kept2 HKA.out (fun hx0 g hg => h.notr hx hx0 g hg))
 have hPN : ¬ (1048576 : Int) < (xs.length : Int) := by omega
 have HRL : Hid (r < w.heap.size) := h.lt
 have HLVL : Hid (∀ q, lv.ownBlock = some q → q < w.heap.size) := h.bl
 have HOLD : Hid (∀ b ∈ ρ.l, b.xs ≠ [] → ∀ q, b.bv.ownBlock = some q → q < w.heap.size) := fun b hb h0 q hq => (h.ok b hb).bin.below h0 q hq
 have HWD : Hid (∀ W, Rst W r lv ρ.put1 → W.cell? ⟨r, 0, none⟩ = some (.int .i64 (k : Int))) := fun W hW => by rw [← hk]; exact hW.cell 0
 have HFL := hid_of (frontOf_len k xs h2)
 rw [hf] at HPL
 rw [hr] at HRM
 clear h hx hS1 hK1 hsz hk hf
 generalize atB ρ.l (frontOf k xs) = kk at *
 generalize ((frontOf k xs).map (Value.int .u8)).toArray = ds at *
 go_enter Tryz.func34, Tryz.ntmps34
 go_wp2_with fail
 clear c0 c5 f5
 generalize (w.setCell ⟨r, 5, none⟩ (.int .i64 (ρ.pt + 1))).alloc (.cells z32 29) = wA at *
 refine (HOF.out wA HXA.out).mono ?_
 rintro e w1 ⟨rfl, hk1⟩
 have HRB := hid_of (HRA.out.same (hk1.alloc (.cells ds 29)))
 have HKB : Hid (Kept (fun k => k = r) w (w1.alloc (.cells ds 29))) := (HKA.out.trans (hk1.mono (fun _ _ f => f.elim))).alloc _
 have HZB : Hid ((w1.alloc (.cells ds 29)).heap[w.heap.size]? = some (.cells z32 29 (0, 0))) := ((hk1.alloc (.cells ds 29)).block _ (heap_lt HZA.out) (fun f => f)).trans HZA.out
 have HDB : Hid ((w1.alloc (.cells ds 29)).heap[w1.heap.size]? = some (.cells ds 29 (0, 0))) := alloc_new _ _ rfl
 have HXB : Hid (BIn (w1.alloc (.cells ds 29)) (.slice bo xs.length bc) xs) := HXA.out.kept2 (hk1.alloc _) (fun _ _ _ f => f)
 have hb6 : w.heap.size < w1.heap.size := Nat.lt_of_lt_of_le (heap_lt HZA.out) hk1.size
 clear hk1 HOF HRA HKA HZA HXA
 go_wp2_with (first | (refine wpList_store_row rfl 29 _ _ rfl w1.heap.size ds rfl rfl 29 _ (alloc_new _ _ rfl) HDS.out HOS.out hone ?_; rw [setRow_new _ _ _ _ rfl]) | refine wpList_load_row rfl 29 _ rfl w1.heap.size rfl 29 ds (0, 0) _ HDB.out Tryz.underlying29 rfl HDS.out ?_)
 refine (HPL.out _ HRB.out).mono ?_
 rintro e w3 ⟨rfl, hk3⟩
 have HR3 := hid_of (HRB.out.same hk3)
 have HK3 : Hid (Kept (fun k => k = r) w w3) := HKB.out.trans (hk3.mono (fun _ _ f => f.elim))
 have HZ3 : Hid (w3.heap[w.heap.size]? = some (.cells z32 29 (0, 0))) := (hk3.block _ (heap_lt HZB.out) (fun f => f)).trans HZB.out
 have HD3 : Hid (w3.heap[w1.heap.size]? = some (.cells ds 29 (0, 0))) := (hk3.block _ (heap_lt HDB.out) (fun f => f)).trans HDB.out
 have HX3 : Hid (BIn w3 (.slice bo xs.length bc) xs) := HXB.out.kept2 hk3 (fun _ _ _ f => f)
 clear hk3 HPL HRB HKB HZB HDB HXB
 obtain ⟨b6, hb6e⟩ : ∃ q, q = w1.heap.size := ⟨_, rfl⟩
 rw [← hb6e] at HD3 hb6 ⊢
 clear hb6e
 go_upto_region 8 with fail
 refine wp_region_held_drew (S := fun w' => Kept (fun _ => False) w3 w') (by kernel_rfl) ((Kept.refl _ _).drew) (fun hHeld => ?_)
 iterate 2
  refine tkn (v := ?_) 0 rfl ?_ ?_; rotate_left 1
  ·intro w hSw; go_simp; try with_reducible rfl
  try simp only [Act.put, tdy]
 iterate 12
  refine tkm 2 rfl ?_
  try simp only [Act.put, tdy]
 refine tku 15 rfl ?_
 try simp only [Act.put, tdy]
 refine wpAnyH_ready (rs := [14]) (by kernel_rfl) (by simp) ?_
 refine AllReadyH.cons rfl (fun K hK => ?_) .nil
 go_simp
 refine hK.out _ _ (by assumption) (fun hHeld => ?_)
 clear hK K
 try simp only [Act.put, tdy]
 refine tku 16 rfl ?_
 try simp only [Act.put, tdy]
 refine tkp (v := ?_) 17 rfl ?_ ?_; rotate_left 1
 ·intro w hSw; go_simp; try with_reducible rfl
 try simp only [Act.put, tdy]
 refine wpAnyH_done (by kernel_rfl) ?_ _
 have hkd : Kept (fun _ => False) w3 w3.drew := (Kept.refl _ _).drew
 have HR5 := hid_of (HR3.out.same hkd)
 have HK5 : Hid (Kept (fun k => k = r) w w3.drew) := HK3.out.trans (hkd.mono (fun _ _ f => f.elim))
 have HZ5 : Hid (w3.drew.heap[w.heap.size]? = some (.cells z32 29 (0, 0))) := (hkd.block _ (heap_lt HZ3.out) (fun f => f)).trans HZ3.out
 have HD5 : Hid (w3.drew.heap[b6]? = some (.cells ds 29 (0, 0))) := (hkd.block _ (heap_lt HD3.out) (fun f => f)).trans HD3.out
 have HX5 : Hid (BIn w3.drew (.slice bo xs.length bc) xs) := HX3.out.kept2 hkd (fun _ _ _ f => f)
 clear hHeld hkd HR3 HK3 HZ3 HD3 HX3
 generalize w3.drew = w5 at *
 go_wp2_with (refine wpList_load_row rfl 29 _ rfl b6 rfl 29 ds (0, 0) _ HD5.out Tryz.underlying29 rfl HDS.out ?_)
 refine (HRM.out _ HR5.out).mono ?_
 rintro e w7 ⟨rfl, hk7⟩
 have HR7 := hid_of (HR5.out.same hk7)
 have HK7 : Hid (Kept (fun k => k = r) w w7) := HK5.out.trans (hk7.mono (fun _ _ f => f.elim))
 have HZ7 : Hid (w7.heap[w.heap.size]? = some (.cells z32 29 (0, 0))) := (hk7.block _ (heap_lt HZ5.out) (fun f => f)).trans HZ5.out
 have HD7 : Hid (w7.heap[b6]? = some (.cells ds 29 (0, 0))) := (hk7.block _ (heap_lt HD5.out) (fun f => f)).trans HD5.out
 have HX7 : Hid (BIn w7 (.slice bo xs.length bc) xs) := HX5.out.kept2 hk7 (fun _ _ _ f => f)
 clear hk7 HRM
 have HKR := hid_of (kept_rowx w7 w.heap.size z32)
 have HRR := hid_of (setRow_heap w7 w.heap.size _ z32 29 (0, 0) HZ7.out)
 have HRF : Hid (Rst (w7.setRow w.heap.size z32) r lv ρ.put1) := HR7.out.kept HKR.out (fun q hq e => by rcases hq with rfl | hq; exact absurd e (Nat.ne_of_lt HRL.out); exact absurd (HLVL.out q hq) (by omega)) (fun b hb h0 q hq e => by have := HOLD.out b hb h0 q hq; omega)
 have HKF : Hid (Kept (fun k => k = r) w (w7.setRow w.heap.size z32)) := HK7.out.setRow (.inl (Nat.le_refl _)) _
 go_wp2_with (first | refine wpList_load_row rfl 29 _ rfl b6 rfl 29 ds (0, 0) _ HD7.out Tryz.underlying29 rfl HDS.out ?_ | refine wpList_store_row rfl 29 _ _ rfl w.heap.size z32 rfl rfl 29 _ HZ7.out HZI.out rfl hzone ?_)
 try simp only [Act.put]
 refine bodyPost_ret (v := .tuple #[.agg z32, .int .i64 43]) ?_ rfl ⟨by rw [HRZ.out], HRF.out, HKF.out⟩
 exact results_row_tmp (fn := Tryz.f34) (p := 4) (u := 5) (by rfl) _ _ w.heap.size 29 z32 (0, 0) _ (by rfl) HRR.out Tryz.underlying29 rfl HZI.out
set_option maxHeartbeats 16000000 in
theorem putr_full1 {w : World} {r : Nat} {lv : Value} {ρ : Rg} (h : Rst w r lv ρ) (k : Nat) (hk : ρ.wd = k) (h1 : 1 ≤ k) (h2 : k ≤ 32) (bv : Value) (xs : List Int) (hx : BIn w bv xs) (hxr : ∀ x ∈ xs, 0 ≤ x ∧ x < 256) (hn : xs.length ≤ 1048576) (hp0 : 0 ≤ ρ.pt) (hp1 : ρ.pt ≤ 1099511627776) (hl0 : 0 ≤ ρ.la) (hl1 : ρ.la ≤ 1099511627776) (hfew : ρ.l.length < 1000000) (b : Bl) (hf : findB ρ.l (frontOf k xs) = some b) (hq : b.xs ≠ xs) (hw : frontOf k b.xs ≠ frontOf k xs) (hr : roomB ρ (frontOf k xs) xs.length = false) : Calls Tryz.prog 34 #[.pointer (some ⟨r, 0, none⟩), bv] w fun e w' => e = .returned (.tuple #[dv zeros32, .int .i64 43]) ∧ Rst w' r lv ρ.put1 ∧ Kept (fun q => q = r) w w' := by
 obtain ⟨bo, bc, rfl⟩ := hx.form
 have hat := (findB_some hf).1
 have hlt := (List.getElem?_eq_some_iff.1 hat).1
 obtain ⟨g, c, hlv⟩ := row_some h.row (by omega)
 have hok := h.ok b (List.mem_of_getElem? hat)
 obtain ⟨bo', bc', hbv⟩ := hok.bin.form
 have HCL : Hid (∀ W, Rst W r lv ρ.put1 → W.cell? ⟨r, 3, none⟩ = some (.slice (some ⟨g, 0, none⟩) ρ.l.length c) ∧ W.cell? ⟨g, atB ρ.l (frontOf k xs) * 34 + 32, none⟩ = some (.slice bo' b.xs.length bc') ∧ BIn W (.slice bo' b.xs.length bc') b.xs) := fun W hW => by
  have hrow := hW.row
  have hc3 := hW.cell 3
  rw [hlv] at hrow hc3
  refine ⟨hc3, ?_, ?_⟩
  ·rw [← hbv]
   exact (Bl.range hok.len (row_get hrow hW.k32 hat)).2.1
  ·rw [← hbv]
   exact (hW.ok b (List.mem_of_getElem? hat)).bin
 have HSM : Hid (∀ W, BIn W (.slice bo' b.xs.length bc') b.xs → BIn W (.slice bo xs.length bc) xs → Calls Tryz.prog 57 #[.slice bo' b.xs.length bc', .slice bo xs.length bc] W fun e w' => e = .returned (.bool (decide (b.xs = xs))) ∧ w' = W) := fun W h3 h4 => same4_any _ _ _ _ W h3 h4 hok.rng hxr
 have HOF2 : Hid (∀ (W : World), BIn W (.slice bo' b.xs.length bc') b.xs → Calls Tryz.prog 38 #[.int .i64 (k : Int), .slice bo' b.xs.length bc'] W fun e w' => e = .returned (.agg ((frontOf k b.xs).map (Value.int .u8)).toArray) ∧ Kept (fun _ => False) W w') := fun W hv => rof4_any k h1 h2 _ _ W hv hok.rng (by have := hok.short; omega)
 have HEQ : Hid (∀ W : World, (Op.equalIn 10000 29 (.agg ((frontOf k b.xs).map (Value.int .u8)).toArray) (.agg ((frontOf k xs).map (Value.int .u8)).toArray)).run Tryz.prog W = .ok (decide (frontOf k b.xs = frontOf k xs)) W) := fun W => run_eq_arr W 9998 29 32 _ _ Tryz.underlying29 (frontOf_len k _ h2) (frontOf_len k _ h2)
 have HDS := hid_of (size29_arr (frontOf k xs) (frontOf_len k xs h2))
 have HOS : Hid (32 = ((frontOf k xs).map (Value.int .u8)).toArray.size) := by show 32 = _; simp [frontOf_len k xs h2]
 have hone := oneCells .u8 (frontOf k xs)
 have HZI : Hid ((Tryz.prog.info? 29).map (·.size) = some (z32 : Array Value).size) := size29
 have hzone : (z32 : Array Value).all (·.oneCell') = true := oneCells .u8 zeros32
 have HRZ : Hid (dv zeros32 = .agg z32) := rfl
 have HPL : Hid (∀ W, Rst W r lv ρ.put1 → Calls Tryz.prog 56 #[.pointer (some ⟨r, 0, none⟩), .agg ((frontOf k xs).map (Value.int .u8)).toArray] W fun e w' => e = .returned (.tuple #[.int .i64 (atB ρ.l (frontOf k xs) : Int), .bool (findB ρ.l (frontOf k xs)).isSome]) ∧ Kept (fun _ => False) W w') := fun W hW => place_any hW _ (frontOf_len k xs h2)
 have HOF : Hid (∀ (W : World), BIn W (.slice bo xs.length bc) xs → Calls Tryz.prog 38 #[.int .i64 (k : Int), .slice bo xs.length bc] W fun e w' => e = .returned (.agg ((frontOf k xs).map (Value.int .u8)).toArray) ∧ Kept (fun _ => False) W w') := fun W hv => rof4_any k h1 h2 _ _ W hv hxr (by omega)
 have HRM : Hid (∀ W, Rst W r lv ρ.put1 → Calls Tryz.prog 58 #[.pointer (some ⟨r, 0, none⟩), .agg ((frontOf k xs).map (Value.int .u8)).toArray, .int .i64 (xs.length : Int)] W fun e w' => e = .returned (.bool (roomB ρ (frontOf k xs) xs.length)) ∧ Kept (fun _ => False) W w') := fun W hW => room_ref hW _ (frontOf_len k xs h2) xs.length hn
 have HLY : Hid (∀ W, Rst W r lv ρ.put1 → BIn W (.slice bo xs.length bc) xs → Calls Tryz.prog 59 #[.pointer (some ⟨r, 0, none⟩), .agg ((frontOf k xs).map (Value.int .u8)).toArray, .slice bo xs.length bc] W fun e w' => (∃ v, e = .returned v) ∧ LayR W w' r lv ρ.put1 (frontOf k xs) xs) := fun W hW hv => lay_ref hW _ (frontOf_len k xs h2) (front_range k xs h2) _ xs hv hxr hn hl0 hl1 hfew
 have c5 : w.cell? ⟨r, 5, none⟩ = some (.int .i64 ρ.pt) := h.cell 5
 have f5 := h.fz 5
 have c0 : w.cell? ⟨r, 0, none⟩ = some (.int .i64 (k : Int)) := by rw [← hk]; exact h.cell 0
 have hrl := h.lt
 have hwp : IntKind.i64.wrap (ρ.pt + 1) = ρ.pt + 1 := by rw [IntKind.wrap_i64]; omega
 obtain ⟨hS1, hK1⟩ := h.set (ρ' := ρ.put1) 5 (.int .i64 (ρ.pt + 1)) rfl rfl
 have HKA : Hid (Kept (fun k => k = r) w ((w.setCell ⟨r, 5, none⟩ (.int .i64 (ρ.pt + 1))).alloc (.cells z32 29))) := hK1.alloc _
 have HRA : Hid (Rst ((w.setCell ⟨r, 5, none⟩ (.int .i64 (ρ.pt + 1))).alloc (.cells z32 29)) r lv ρ.put1) := hS1.same ((Kept.refl _ _).alloc _)
 have hsz : (w.setCell ⟨r, 5, none⟩ (.int .i64 (ρ.pt + 1))).heap.size = w.heap.size := by simp [World.setCell]
 have HZA : Hid (((w.setCell ⟨r, 5, none⟩ (.int .i64 (ρ.pt + 1))).alloc (.cells z32 29)).heap[w.heap.size]? = some (.cells z32 29 (0, 0))) := by
  have := alloc_new (w.setCell ⟨r, 5, none⟩ (.int .i64 (ρ.pt + 1))) (.cells z32 29) rfl
  rw [hsz] at this
  exact this
 have HXA := hid_of (hx.kept2 HKA.out (fun hx0 g hg => h.notr hx hx0 g hg))
 have hPN : ¬ (1048576 : Int) < (xs.length : Int) := by omega
 have HRL : Hid (r < w.heap.size) := h.lt
 have HLVL : Hid (∀ q, lv.ownBlock = some q → q < w.heap.size) := h.bl
 have HOLD : Hid (∀ b ∈ ρ.l, b.xs ≠ [] → ∀ q, b.bv.ownBlock = some q → q < w.heap.size) := fun b hb h0 q hq => (h.ok b hb).bin.below h0 q hq
 have HWD : Hid (∀ W, Rst W r lv ρ.put1 → W.cell? ⟨r, 0, none⟩ = some (.int .i64 (k : Int))) := fun W hW => by rw [← hk]; exact hW.cell 0
 have HFL := hid_of (frontOf_len k xs h2)
 rw [hf] at HPL
 rw [decide_eq_false hq] at HSM
 rw [decide_eq_false hw] at HEQ
 rw [hr] at HRM
 clear h hx hS1 hK1 hsz hk hf hq hat hok hbv hlv
 obtain ⟨kk, hkk⟩ : ∃ q, q = atB ρ.l (frontOf k xs) := ⟨_, rfl⟩
 obtain ⟨n, hnn⟩ : ∃ q, q = ρ.l.length := ⟨_, rfl⟩
 rw [← hkk] at HCL HPL hlt
 rw [← hnn] at HCL hlt
 have hltI : (kk : Int) < (n : Int) := by omega
 clear hkk hlt hnn
 generalize ((frontOf k b.xs).map (Value.int .u8)).toArray = fs at *
 generalize ((frontOf k xs).map (Value.int .u8)).toArray = ds at *
 go_enter Tryz.func34, Tryz.ntmps34
 go_wp2_with fail
 clear c0 c5 f5
 generalize (w.setCell ⟨r, 5, none⟩ (.int .i64 (ρ.pt + 1))).alloc (.cells z32 29) = wA at *
 refine (HOF.out wA HXA.out).mono ?_
 rintro e w1 ⟨rfl, hk1⟩
 have HRB := hid_of (HRA.out.same (hk1.alloc (.cells ds 29)))
 have HKB : Hid (Kept (fun k => k = r) w (w1.alloc (.cells ds 29))) := (HKA.out.trans (hk1.mono (fun _ _ f => f.elim))).alloc _
 have HZB : Hid ((w1.alloc (.cells ds 29)).heap[w.heap.size]? = some (.cells z32 29 (0, 0))) := ((hk1.alloc (.cells ds 29)).block _ (heap_lt HZA.out) (fun f => f)).trans HZA.out
 have HDB : Hid ((w1.alloc (.cells ds 29)).heap[w1.heap.size]? = some (.cells ds 29 (0, 0))) := alloc_new _ _ rfl
 have HXB : Hid (BIn (w1.alloc (.cells ds 29)) (.slice bo xs.length bc) xs) := HXA.out.kept2 (hk1.alloc _) (fun _ _ _ f => f)
 have hb6 : w.heap.size < w1.heap.size := Nat.lt_of_lt_of_le (heap_lt HZA.out) hk1.size
 clear hk1 HOF HRA HKA HZA HXA
 go_wp2_with (first | (refine wpList_store_row rfl 29 _ _ rfl w1.heap.size ds rfl rfl 29 _ (alloc_new _ _ rfl) HDS.out HOS.out hone ?_; rw [setRow_new _ _ _ _ rfl]) | refine wpList_load_row rfl 29 _ rfl w1.heap.size rfl 29 ds (0, 0) _ HDB.out Tryz.underlying29 rfl HDS.out ?_)
 refine (HPL.out _ HRB.out).mono ?_
 rintro e w3 ⟨rfl, hk3⟩
 have HR3 := hid_of (HRB.out.same hk3)
 have HK3 : Hid (Kept (fun k => k = r) w w3) := HKB.out.trans (hk3.mono (fun _ _ f => f.elim))
 have HZ3 : Hid (w3.heap[w.heap.size]? = some (.cells z32 29 (0, 0))) := (hk3.block _ (heap_lt HZB.out) (fun f => f)).trans HZB.out
 have HD3 : Hid (w3.heap[w1.heap.size]? = some (.cells ds 29 (0, 0))) := (hk3.block _ (heap_lt HDB.out) (fun f => f)).trans HDB.out
 have HX3 : Hid (BIn w3 (.slice bo xs.length bc) xs) := HXB.out.kept2 hk3 (fun _ _ _ f => f)
 clear hk3 HPL HRB HKB HZB HDB HXB
 obtain ⟨b6, hb6e⟩ : ∃ q, q = w1.heap.size := ⟨_, rfl⟩
 rw [← hb6e] at HD3 hb6 ⊢
 clear hb6e
 obtain ⟨q3, q4, q5⟩ := HCL.out w3 HR3.out
 have HBB := hid_of q5
 clear q5
 go_wp2_with fail
 refine (HSM.out _ HBB.out HX3.out).mono ?_
 rintro e w4 ⟨rfl, hw4⟩
 have hw4' := hw4.symm
 subst hw4'
 clear hw4 HBB HSM
 clear q3 q4
 go_upto_region 8 with fail
 refine wp_region_held_drew (S := fun w' => Kept (fun _ => False) w3 w') (by kernel_rfl) ((Kept.refl _ _).drew) (fun hHeld => ?_)
 iterate 14
  refine tkn (v := ?_) 0 rfl ?_ ?_; rotate_left 1
  ·intro w hSw; obtain ⟨q3, q4, q5⟩ := HCL.out w (HR3.out.same hSw); have q0 := HWD.out w (HR3.out.same hSw); clear q5; go_simp; try with_reducible rfl
  try simp only [Act.put, tdy]
 refine tkg 15 (.agg ds) rfl (yields_row (by rfl) 29 _ rfl b6 rfl _ _ _ _ (fun w hSw => (hSw.block _ (heap_lt HD3.out) (fun f => f)).trans HD3.out) Tryz.underlying29 rfl HDS.out) ?_
 try simp only [Act.put, tdy]
 refine wpAnyH_ready (rs := [14]) (by kernel_rfl) (by simp) ?_
 refine AllReadyH.cons rfl (fun K hK => ?_) .nil
 go_simp
 refine (HOF2.out _ (HCL.out _ (HR3.out.same ((Kept.refl _ _).drew))).2.2).mono ?_
 rintro e w5 ⟨rfl, hk5⟩
 have HK35 := hid_of (((Kept.refl (fun _ => False) w3).drew).trans hk5)
 refine hK.out _ _ HK35.out (fun hHeld => ?_)
 clear hK K hk5
 try simp only [Act.put, tdy]
 refine tkp (v := ?_) 16 rfl ?_ ?_; rotate_left 1
 ·intro w hSw; have hq := HEQ.out w; go_simp; try with_reducible rfl
 try simp only [Act.put, tdy]
 refine tkp (v := ?_) 17 rfl ?_ ?_; rotate_left 1
 ·intro w hSw; go_simp; try with_reducible rfl
 try simp only [Act.put, tdy]
 refine wpAnyH_done (by kernel_rfl) ?_ _
 have HR5 := hid_of (HR3.out.same HK35.out)
 have HK5 : Hid (Kept (fun k => k = r) w w5) := HK3.out.trans (HK35.out.mono (fun _ _ f => f.elim))
 have HZ5 : Hid (w5.heap[w.heap.size]? = some (.cells z32 29 (0, 0))) := (HK35.out.block _ (heap_lt HZ3.out) (fun f => f)).trans HZ3.out
 have HD5 : Hid (w5.heap[b6]? = some (.cells ds 29 (0, 0))) := (HK35.out.block _ (heap_lt HD3.out) (fun f => f)).trans HD3.out
 have HX5 : Hid (BIn w5 (.slice bo xs.length bc) xs) := HX3.out.kept2 HK35.out (fun _ _ _ f => f)
 clear hHeld HK35 HR3 HK3 HZ3 HD3 HX3
 go_wp2_with (refine wpList_load_row rfl 29 _ rfl b6 rfl 29 ds (0, 0) _ HD5.out Tryz.underlying29 rfl HDS.out ?_)
 refine (HRM.out _ HR5.out).mono ?_
 rintro e w7 ⟨rfl, hk7⟩
 have HR7 := hid_of (HR5.out.same hk7)
 have HK7 : Hid (Kept (fun k => k = r) w w7) := HK5.out.trans (hk7.mono (fun _ _ f => f.elim))
 have HZ7 : Hid (w7.heap[w.heap.size]? = some (.cells z32 29 (0, 0))) := (hk7.block _ (heap_lt HZ5.out) (fun f => f)).trans HZ5.out
 have HD7 : Hid (w7.heap[b6]? = some (.cells ds 29 (0, 0))) := (hk7.block _ (heap_lt HD5.out) (fun f => f)).trans HD5.out
 have HX7 : Hid (BIn w7 (.slice bo xs.length bc) xs) := HX5.out.kept2 hk7 (fun _ _ _ f => f)
 clear hk7 HRM
 have HKR := hid_of (kept_rowx w7 w.heap.size z32)
 have HRR := hid_of (setRow_heap w7 w.heap.size _ z32 29 (0, 0) HZ7.out)
 have HRF : Hid (Rst (w7.setRow w.heap.size z32) r lv ρ.put1) := HR7.out.kept HKR.out (fun q hq e => by rcases hq with rfl | hq; exact absurd e (Nat.ne_of_lt HRL.out); exact absurd (HLVL.out q hq) (by omega)) (fun b hb h0 q hq e => by have := HOLD.out b hb h0 q hq; omega)
 have HKF : Hid (Kept (fun k => k = r) w (w7.setRow w.heap.size z32)) := HK7.out.setRow (.inl (Nat.le_refl _)) _
 go_wp2_with (first | refine wpList_load_row rfl 29 _ rfl b6 rfl 29 ds (0, 0) _ HD7.out Tryz.underlying29 rfl HDS.out ?_ | refine wpList_store_row rfl 29 _ _ rfl w.heap.size z32 rfl rfl 29 _ HZ7.out HZI.out rfl hzone ?_)
 try simp only [Act.put]
 refine bodyPost_ret (v := .tuple #[.agg z32, .int .i64 43]) ?_ rfl ⟨by rw [HRZ.out], HRF.out, HKF.out⟩
 exact results_row_tmp (fn := Tryz.f34) (p := 4) (u := 5) (by rfl) _ _ w.heap.size 29 z32 (0, 0) _ (by rfl) HRR.out Tryz.underlying29 rfl HZI.out
set_option maxHeartbeats 16000000 in
theorem putr_ok0 {w : World} {r : Nat} {lv : Value} {ρ : Rg} (h : Rst w r lv ρ) (k : Nat) (hk : ρ.wd = k) (h1 : 1 ≤ k) (h2 : k ≤ 32) (bv : Value) (xs : List Int) (hx : BIn w bv xs) (hxr : ∀ x ∈ xs, 0 ≤ x ∧ x < 256) (hn : xs.length ≤ 1048576) (hp0 : 0 ≤ ρ.pt) (hp1 : ρ.pt ≤ 1099511627776) (hl0 : 0 ≤ ρ.la) (hl1 : ρ.la ≤ 1099511627776) (hfew : ρ.l.length < 1000000) (hf : findB ρ.l (frontOf k xs) = none) (hr : roomB ρ (frontOf k xs) xs.length = true) : Calls Tryz.prog 34 #[.pointer (some ⟨r, 0, none⟩), bv] w fun e w' => e = .returned (.tuple #[dv (frontOf k xs), .int .i64 0]) ∧ LayR w w' r lv ρ.put1 (frontOf k xs) xs := by
 obtain ⟨bo, bc, rfl⟩ := hx.form
 have HDS := hid_of (size29_arr (frontOf k xs) (frontOf_len k xs h2))
 have HOS : Hid (32 = ((frontOf k xs).map (Value.int .u8)).toArray.size) := by show 32 = _; simp [frontOf_len k xs h2]
 have hone := oneCells .u8 (frontOf k xs)
 have HZI : Hid ((Tryz.prog.info? 29).map (·.size) = some (z32 : Array Value).size) := size29
 have hzone : (z32 : Array Value).all (·.oneCell') = true := oneCells .u8 zeros32
 have HRZ : Hid (dv zeros32 = .agg z32) := rfl
 have HPL : Hid (∀ W, Rst W r lv ρ.put1 → Calls Tryz.prog 56 #[.pointer (some ⟨r, 0, none⟩), .agg ((frontOf k xs).map (Value.int .u8)).toArray] W fun e w' => e = .returned (.tuple #[.int .i64 (atB ρ.l (frontOf k xs) : Int), .bool (findB ρ.l (frontOf k xs)).isSome]) ∧ Kept (fun _ => False) W w') := fun W hW => place_any hW _ (frontOf_len k xs h2)
 have HOF : Hid (∀ (W : World), BIn W (.slice bo xs.length bc) xs → Calls Tryz.prog 38 #[.int .i64 (k : Int), .slice bo xs.length bc] W fun e w' => e = .returned (.agg ((frontOf k xs).map (Value.int .u8)).toArray) ∧ Kept (fun _ => False) W w') := fun W hv => rof4_any k h1 h2 _ _ W hv hxr (by omega)
 have HRM : Hid (∀ W, Rst W r lv ρ.put1 → Calls Tryz.prog 58 #[.pointer (some ⟨r, 0, none⟩), .agg ((frontOf k xs).map (Value.int .u8)).toArray, .int .i64 (xs.length : Int)] W fun e w' => e = .returned (.bool (roomB ρ (frontOf k xs) xs.length)) ∧ Kept (fun _ => False) W w') := fun W hW => room_ref hW _ (frontOf_len k xs h2) xs.length hn
 have HLY : Hid (∀ W, Rst W r lv ρ.put1 → BIn W (.slice bo xs.length bc) xs → Calls Tryz.prog 59 #[.pointer (some ⟨r, 0, none⟩), .agg ((frontOf k xs).map (Value.int .u8)).toArray, .slice bo xs.length bc] W fun e w' => (∃ v, e = .returned v) ∧ LayR W w' r lv ρ.put1 (frontOf k xs) xs) := fun W hW hv => lay_ref hW _ (frontOf_len k xs h2) (front_range k xs h2) _ xs hv hxr hn hl0 hl1 hfew
 have c5 : w.cell? ⟨r, 5, none⟩ = some (.int .i64 ρ.pt) := h.cell 5
 have f5 := h.fz 5
 have c0 : w.cell? ⟨r, 0, none⟩ = some (.int .i64 (k : Int)) := by rw [← hk]; exact h.cell 0
 have hrl := h.lt
 have hwp : IntKind.i64.wrap (ρ.pt + 1) = ρ.pt + 1 := by rw [IntKind.wrap_i64]; omega
 obtain ⟨hS1, hK1⟩ := h.set (ρ' := ρ.put1) 5 (.int .i64 (ρ.pt + 1)) rfl rfl
 have HKA : Hid (Kept (fun k => k = r) w ((w.setCell ⟨r, 5, none⟩ (.int .i64 (ρ.pt + 1))).alloc (.cells z32 29))) := hK1.alloc _
 have HRA : Hid (Rst ((w.setCell ⟨r, 5, none⟩ (.int .i64 (ρ.pt + 1))).alloc (.cells z32 29)) r lv ρ.put1) := hS1.same ((Kept.refl _ _).alloc _)
 have hsz : (w.setCell ⟨r, 5, none⟩ (.int .i64 (ρ.pt + 1))).heap.size = w.heap.size := by simp [World.setCell]
 have HZA : Hid (((w.setCell ⟨r, 5, none⟩ (.int .i64 (ρ.pt + 1))).alloc (.cells z32 29)).heap[w.heap.size]? = some (.cells z32 29 (0, 0))) := by
  have := alloc_new (w.setCell ⟨r, 5, none⟩ (.int .i64 (ρ.pt + 1))) (.cells z32 29) rfl
  rw [hsz] at this
  exact this
 have HXA := hid_of (hx.kept2 HKA.out (fun hx0 g hg => h.notr hx hx0 g hg))
 have hPN : ¬ (1048576 : Int) < (xs.length : Int) := by omega
 have HRL : Hid (r < w.heap.size) := h.lt
 have HLVL : Hid (∀ q, lv.ownBlock = some q → q < w.heap.size) := h.bl
 have HOLD : Hid (∀ b ∈ ρ.l, b.xs ≠ [] → ∀ q, b.bv.ownBlock = some q → q < w.heap.size) := fun b hb h0 q hq => (h.ok b hb).bin.below h0 q hq
 have HWD : Hid (∀ W, Rst W r lv ρ.put1 → W.cell? ⟨r, 0, none⟩ = some (.int .i64 (k : Int))) := fun W hW => by rw [← hk]; exact hW.cell 0
 have HFL := hid_of (frontOf_len k xs h2)
 rw [hf] at HPL
 rw [hr] at HRM
 unfold dv
 clear h hx hS1 hK1 hsz hk hf
 generalize atB ρ.l (frontOf k xs) = kk at *
 generalize ((frontOf k xs).map (Value.int .u8)).toArray = ds at *
 go_enter Tryz.func34, Tryz.ntmps34
 go_wp2_with fail
 clear c0 c5 f5
 generalize (w.setCell ⟨r, 5, none⟩ (.int .i64 (ρ.pt + 1))).alloc (.cells z32 29) = wA at *
 refine (HOF.out wA HXA.out).mono ?_
 rintro e w1 ⟨rfl, hk1⟩
 have HRB := hid_of (HRA.out.same (hk1.alloc (.cells ds 29)))
 have HKB : Hid (Kept (fun k => k = r) w (w1.alloc (.cells ds 29))) := (HKA.out.trans (hk1.mono (fun _ _ f => f.elim))).alloc _
 have HZB : Hid ((w1.alloc (.cells ds 29)).heap[w.heap.size]? = some (.cells z32 29 (0, 0))) := ((hk1.alloc (.cells ds 29)).block _ (heap_lt HZA.out) (fun f => f)).trans HZA.out
 have HDB : Hid ((w1.alloc (.cells ds 29)).heap[w1.heap.size]? = some (.cells ds 29 (0, 0))) := alloc_new _ _ rfl
 have HXB : Hid (BIn (w1.alloc (.cells ds 29)) (.slice bo xs.length bc) xs) := HXA.out.kept2 (hk1.alloc _) (fun _ _ _ f => f)
 have hb6 : w.heap.size < w1.heap.size := Nat.lt_of_lt_of_le (heap_lt HZA.out) hk1.size
 clear hk1 HOF HRA HKA HZA HXA
 go_wp2_with (first | (refine wpList_store_row rfl 29 _ _ rfl w1.heap.size ds rfl rfl 29 _ (alloc_new _ _ rfl) HDS.out HOS.out hone ?_; rw [setRow_new _ _ _ _ rfl]) | refine wpList_load_row rfl 29 _ rfl w1.heap.size rfl 29 ds (0, 0) _ HDB.out Tryz.underlying29 rfl HDS.out ?_)
 refine (HPL.out _ HRB.out).mono ?_
 rintro e w3 ⟨rfl, hk3⟩
 have HR3 := hid_of (HRB.out.same hk3)
 have HK3 : Hid (Kept (fun k => k = r) w w3) := HKB.out.trans (hk3.mono (fun _ _ f => f.elim))
 have HZ3 : Hid (w3.heap[w.heap.size]? = some (.cells z32 29 (0, 0))) := (hk3.block _ (heap_lt HZB.out) (fun f => f)).trans HZB.out
 have HD3 : Hid (w3.heap[w1.heap.size]? = some (.cells ds 29 (0, 0))) := (hk3.block _ (heap_lt HDB.out) (fun f => f)).trans HDB.out
 have HX3 : Hid (BIn w3 (.slice bo xs.length bc) xs) := HXB.out.kept2 hk3 (fun _ _ _ f => f)
 clear hk3 HPL HRB HKB HZB HDB HXB
 obtain ⟨b6, hb6e⟩ : ∃ q, q = w1.heap.size := ⟨_, rfl⟩
 rw [← hb6e] at HD3 hb6 ⊢
 clear hb6e
 go_upto_region 8 with fail
 refine wp_region_held_drew (S := fun w' => Kept (fun _ => False) w3 w') (by kernel_rfl) ((Kept.refl _ _).drew) (fun hHeld => ?_)
 iterate 2
  refine tkn (v := ?_) 0 rfl ?_ ?_; rotate_left 1
  ·intro w hSw; go_simp; try with_reducible rfl
  try simp only [Act.put, tdy]
 iterate 12
  refine tkm 2 rfl ?_
  try simp only [Act.put, tdy]
 refine tku 15 rfl ?_
 try simp only [Act.put, tdy]
 refine wpAnyH_ready (rs := [14]) (by kernel_rfl) (by simp) ?_
 refine AllReadyH.cons rfl (fun K hK => ?_) .nil
 go_simp
 refine hK.out _ _ (by assumption) (fun hHeld => ?_)
 clear hK K
 try simp only [Act.put, tdy]
 refine tku 16 rfl ?_
 try simp only [Act.put, tdy]
 refine tkp (v := ?_) 17 rfl ?_ ?_; rotate_left 1
 ·intro w hSw; go_simp; try with_reducible rfl
 try simp only [Act.put, tdy]
 refine wpAnyH_done (by kernel_rfl) ?_ _
 have hkd : Kept (fun _ => False) w3 w3.drew := (Kept.refl _ _).drew
 have HR5 := hid_of (HR3.out.same hkd)
 have HK5 : Hid (Kept (fun k => k = r) w w3.drew) := HK3.out.trans (hkd.mono (fun _ _ f => f.elim))
 have HZ5 : Hid (w3.drew.heap[w.heap.size]? = some (.cells z32 29 (0, 0))) := (hkd.block _ (heap_lt HZ3.out) (fun f => f)).trans HZ3.out
 have HD5 : Hid (w3.drew.heap[b6]? = some (.cells ds 29 (0, 0))) := (hkd.block _ (heap_lt HD3.out) (fun f => f)).trans HD3.out
 have HX5 : Hid (BIn w3.drew (.slice bo xs.length bc) xs) := HX3.out.kept2 hkd (fun _ _ _ f => f)
 clear hHeld hkd HR3 HK3 HZ3 HD3 HX3
 generalize w3.drew = w5 at *
 go_wp2_with (refine wpList_load_row rfl 29 _ rfl b6 rfl 29 ds (0, 0) _ HD5.out Tryz.underlying29 rfl HDS.out ?_)
 refine (HRM.out _ HR5.out).mono ?_
 rintro e w7 ⟨rfl, hk7⟩
 have HR7 := hid_of (HR5.out.same hk7)
 have HK7 : Hid (Kept (fun k => k = r) w w7) := HK5.out.trans (hk7.mono (fun _ _ f => f.elim))
 have HZ7 : Hid (w7.heap[w.heap.size]? = some (.cells z32 29 (0, 0))) := (hk7.block _ (heap_lt HZ5.out) (fun f => f)).trans HZ5.out
 have HD7 : Hid (w7.heap[b6]? = some (.cells ds 29 (0, 0))) := (hk7.block _ (heap_lt HD5.out) (fun f => f)).trans HD5.out
 have HX7 : Hid (BIn w7 (.slice bo xs.length bc) xs) := HX5.out.kept2 hk7 (fun _ _ _ f => f)
 clear hk7 HRM
 go_wp2_with (refine wpList_load_row rfl 29 _ rfl b6 rfl 29 ds (0, 0) _ HD7.out Tryz.underlying29 rfl HDS.out ?_)
 refine (HLY.out _ HR7.out HX7.out).mono ?_
 rintro e w8 ⟨⟨v8, rfl⟩, lv8, bv8, hr8, hk8, hl8, hb8⟩
 have hs8 : w.heap.size < w7.heap.size := heap_lt HZ7.out
 have HZ8 : Hid (w8.heap[w.heap.size]? = some (.cells z32 29 (0, 0))) := (hk8.block _ (heap_lt HZ7.out) (fun e => by rcases e with e | e; exact absurd e.symm (Nat.ne_of_lt HRL.out); exact absurd (HLVL.out _ e) (by omega))).trans HZ7.out
 have HD8 : Hid (w8.heap[b6]? = some (.cells ds 29 (0, 0))) := (hk8.block _ (heap_lt HD7.out) (fun e => by rcases e with e | e; have := HRL.out; omega; have := HLVL.out _ e; omega)).trans HD7.out
 have HKR := hid_of (kept_rowx w8 w.heap.size ds)
 have HRR := hid_of (setRow_heap w8 w.heap.size _ ds 29 (0, 0) HZ8.out)
 have HFN : Hid (LayR w (w8.setRow w.heap.size ds) r lv ρ.put1 (frontOf k xs) xs) := by
  refine ⟨lv8, bv8, hr8.kept HKR.out (fun q hq e => ?_) (fun b hb h0 q hq e => ?_), ?_, ?_, fun g hg => Nat.le_trans (Nat.le_of_lt hs8) (hb8 g hg)⟩
  ·rcases hq with rfl | hq
   ·exact absurd e (Nat.ne_of_lt HRL.out)
   ·rcases hl8 with rfl | h9
    ·exact absurd (HLVL.out q hq) (by omega)
    ·have := h9 q hq; omega
  ·rcases layB_mem _ _ _ hb with hb | rfl
   ·have := HOLD.out b hb h0 q hq; omega
   ·have := hb8 q hq; omega
  ·exact ((HK7.out.mono (fun _ _ e => .inl e)).trans hk8).setRow (.inl (Nat.le_refl _)) _
  ·rcases hl8 with h9 | h9
   ·exact .inl h9
   ·exact .inr (fun q hq => Nat.le_trans (Nat.le_of_lt hs8) (h9 q hq))
 clear hr8 hk8 hl8 hb8 HLY HR7 HK7 HX7 HZ7 HD7
 go_wp2_with (first | refine wpList_load_row rfl 29 _ rfl b6 rfl 29 ds (0, 0) _ HD8.out Tryz.underlying29 rfl HDS.out ?_ | refine wpList_store_row rfl 29 _ _ rfl w.heap.size ds rfl rfl 29 _ HZ8.out HDS.out HOS.out hone ?_)
 try simp only [Act.put]
 refine bodyPost_ret (v := .tuple #[.agg ds, .int .i64 0]) ?_ rfl ⟨rfl, HFN.out⟩
 exact results_row_tmp (fn := Tryz.f34) (p := 4) (u := 5) (by rfl) _ _ w.heap.size 29 ds (0, 0) _ (by rfl) HRR.out Tryz.underlying29 rfl HDS.out
set_option maxHeartbeats 16000000 in
theorem putr_ok1 {w : World} {r : Nat} {lv : Value} {ρ : Rg} (h : Rst w r lv ρ) (k : Nat) (hk : ρ.wd = k) (h1 : 1 ≤ k) (h2 : k ≤ 32) (bv : Value) (xs : List Int) (hx : BIn w bv xs) (hxr : ∀ x ∈ xs, 0 ≤ x ∧ x < 256) (hn : xs.length ≤ 1048576) (hp0 : 0 ≤ ρ.pt) (hp1 : ρ.pt ≤ 1099511627776) (hl0 : 0 ≤ ρ.la) (hl1 : ρ.la ≤ 1099511627776) (hfew : ρ.l.length < 1000000) (b : Bl) (hf : findB ρ.l (frontOf k xs) = some b) (hq : b.xs ≠ xs) (hw : frontOf k b.xs ≠ frontOf k xs) (hr : roomB ρ (frontOf k xs) xs.length = true) : Calls Tryz.prog 34 #[.pointer (some ⟨r, 0, none⟩), bv] w fun e w' => e = .returned (.tuple #[dv (frontOf k xs), .int .i64 0]) ∧ LayR w w' r lv ρ.put1 (frontOf k xs) xs := by
 obtain ⟨bo, bc, rfl⟩ := hx.form
 have hat := (findB_some hf).1
 have hlt := (List.getElem?_eq_some_iff.1 hat).1
 obtain ⟨g, c, hlv⟩ := row_some h.row (by omega)
 have hok := h.ok b (List.mem_of_getElem? hat)
 obtain ⟨bo', bc', hbv⟩ := hok.bin.form
 have HCL : Hid (∀ W, Rst W r lv ρ.put1 → W.cell? ⟨r, 3, none⟩ = some (.slice (some ⟨g, 0, none⟩) ρ.l.length c) ∧ W.cell? ⟨g, atB ρ.l (frontOf k xs) * 34 + 32, none⟩ = some (.slice bo' b.xs.length bc') ∧ BIn W (.slice bo' b.xs.length bc') b.xs) := fun W hW => by
  have hrow := hW.row
  have hc3 := hW.cell 3
  rw [hlv] at hrow hc3
  refine ⟨hc3, ?_, ?_⟩
  ·rw [← hbv]
   exact (Bl.range hok.len (row_get hrow hW.k32 hat)).2.1
  ·rw [← hbv]
   exact (hW.ok b (List.mem_of_getElem? hat)).bin
 have HSM : Hid (∀ W, BIn W (.slice bo' b.xs.length bc') b.xs → BIn W (.slice bo xs.length bc) xs → Calls Tryz.prog 57 #[.slice bo' b.xs.length bc', .slice bo xs.length bc] W fun e w' => e = .returned (.bool (decide (b.xs = xs))) ∧ w' = W) := fun W h3 h4 => same4_any _ _ _ _ W h3 h4 hok.rng hxr
 have HOF2 : Hid (∀ (W : World), BIn W (.slice bo' b.xs.length bc') b.xs → Calls Tryz.prog 38 #[.int .i64 (k : Int), .slice bo' b.xs.length bc'] W fun e w' => e = .returned (.agg ((frontOf k b.xs).map (Value.int .u8)).toArray) ∧ Kept (fun _ => False) W w') := fun W hv => rof4_any k h1 h2 _ _ W hv hok.rng (by have := hok.short; omega)
 have HEQ : Hid (∀ W : World, (Op.equalIn 10000 29 (.agg ((frontOf k b.xs).map (Value.int .u8)).toArray) (.agg ((frontOf k xs).map (Value.int .u8)).toArray)).run Tryz.prog W = .ok (decide (frontOf k b.xs = frontOf k xs)) W) := fun W => run_eq_arr W 9998 29 32 _ _ Tryz.underlying29 (frontOf_len k _ h2) (frontOf_len k _ h2)
 have HDS := hid_of (size29_arr (frontOf k xs) (frontOf_len k xs h2))
 have HOS : Hid (32 = ((frontOf k xs).map (Value.int .u8)).toArray.size) := by show 32 = _; simp [frontOf_len k xs h2]
 have hone := oneCells .u8 (frontOf k xs)
 have HZI : Hid ((Tryz.prog.info? 29).map (·.size) = some (z32 : Array Value).size) := size29
 have hzone : (z32 : Array Value).all (·.oneCell') = true := oneCells .u8 zeros32
 have HRZ : Hid (dv zeros32 = .agg z32) := rfl
 have HPL : Hid (∀ W, Rst W r lv ρ.put1 → Calls Tryz.prog 56 #[.pointer (some ⟨r, 0, none⟩), .agg ((frontOf k xs).map (Value.int .u8)).toArray] W fun e w' => e = .returned (.tuple #[.int .i64 (atB ρ.l (frontOf k xs) : Int), .bool (findB ρ.l (frontOf k xs)).isSome]) ∧ Kept (fun _ => False) W w') := fun W hW => place_any hW _ (frontOf_len k xs h2)
 have HOF : Hid (∀ (W : World), BIn W (.slice bo xs.length bc) xs → Calls Tryz.prog 38 #[.int .i64 (k : Int), .slice bo xs.length bc] W fun e w' => e = .returned (.agg ((frontOf k xs).map (Value.int .u8)).toArray) ∧ Kept (fun _ => False) W w') := fun W hv => rof4_any k h1 h2 _ _ W hv hxr (by omega)
 have HRM : Hid (∀ W, Rst W r lv ρ.put1 → Calls Tryz.prog 58 #[.pointer (some ⟨r, 0, none⟩), .agg ((frontOf k xs).map (Value.int .u8)).toArray, .int .i64 (xs.length : Int)] W fun e w' => e = .returned (.bool (roomB ρ (frontOf k xs) xs.length)) ∧ Kept (fun _ => False) W w') := fun W hW => room_ref hW _ (frontOf_len k xs h2) xs.length hn
 have HLY : Hid (∀ W, Rst W r lv ρ.put1 → BIn W (.slice bo xs.length bc) xs → Calls Tryz.prog 59 #[.pointer (some ⟨r, 0, none⟩), .agg ((frontOf k xs).map (Value.int .u8)).toArray, .slice bo xs.length bc] W fun e w' => (∃ v, e = .returned v) ∧ LayR W w' r lv ρ.put1 (frontOf k xs) xs) := fun W hW hv => lay_ref hW _ (frontOf_len k xs h2) (front_range k xs h2) _ xs hv hxr hn hl0 hl1 hfew
 have c5 : w.cell? ⟨r, 5, none⟩ = some (.int .i64 ρ.pt) := h.cell 5
 have f5 := h.fz 5
 have c0 : w.cell? ⟨r, 0, none⟩ = some (.int .i64 (k : Int)) := by rw [← hk]; exact h.cell 0
 have hrl := h.lt
 have hwp : IntKind.i64.wrap (ρ.pt + 1) = ρ.pt + 1 := by rw [IntKind.wrap_i64]; omega
 obtain ⟨hS1, hK1⟩ := h.set (ρ' := ρ.put1) 5 (.int .i64 (ρ.pt + 1)) rfl rfl
 have HKA : Hid (Kept (fun k => k = r) w ((w.setCell ⟨r, 5, none⟩ (.int .i64 (ρ.pt + 1))).alloc (.cells z32 29))) := hK1.alloc _
 have HRA : Hid (Rst ((w.setCell ⟨r, 5, none⟩ (.int .i64 (ρ.pt + 1))).alloc (.cells z32 29)) r lv ρ.put1) := hS1.same ((Kept.refl _ _).alloc _)
 have hsz : (w.setCell ⟨r, 5, none⟩ (.int .i64 (ρ.pt + 1))).heap.size = w.heap.size := by simp [World.setCell]
 have HZA : Hid (((w.setCell ⟨r, 5, none⟩ (.int .i64 (ρ.pt + 1))).alloc (.cells z32 29)).heap[w.heap.size]? = some (.cells z32 29 (0, 0))) := by
  have := alloc_new (w.setCell ⟨r, 5, none⟩ (.int .i64 (ρ.pt + 1))) (.cells z32 29) rfl
  rw [hsz] at this
  exact this
 have HXA := hid_of (hx.kept2 HKA.out (fun hx0 g hg => h.notr hx hx0 g hg))
 have hPN : ¬ (1048576 : Int) < (xs.length : Int) := by omega
 have HRL : Hid (r < w.heap.size) := h.lt
 have HLVL : Hid (∀ q, lv.ownBlock = some q → q < w.heap.size) := h.bl
 have HOLD : Hid (∀ b ∈ ρ.l, b.xs ≠ [] → ∀ q, b.bv.ownBlock = some q → q < w.heap.size) := fun b hb h0 q hq => (h.ok b hb).bin.below h0 q hq
 have HWD : Hid (∀ W, Rst W r lv ρ.put1 → W.cell? ⟨r, 0, none⟩ = some (.int .i64 (k : Int))) := fun W hW => by rw [← hk]; exact hW.cell 0
 have HFL := hid_of (frontOf_len k xs h2)
 rw [hf] at HPL
 rw [decide_eq_false hq] at HSM
 rw [decide_eq_false hw] at HEQ
 rw [hr] at HRM
 unfold dv
 clear h hx hS1 hK1 hsz hk hf hq hat hok hbv hlv
 obtain ⟨kk, hkk⟩ : ∃ q, q = atB ρ.l (frontOf k xs) := ⟨_, rfl⟩
 obtain ⟨n, hnn⟩ : ∃ q, q = ρ.l.length := ⟨_, rfl⟩
 rw [← hkk] at HCL HPL hlt
 rw [← hnn] at HCL hlt
 have hltI : (kk : Int) < (n : Int) := by omega
 clear hkk hlt hnn
 generalize ((frontOf k b.xs).map (Value.int .u8)).toArray = fs at *
 generalize ((frontOf k xs).map (Value.int .u8)).toArray = ds at *
 go_enter Tryz.func34, Tryz.ntmps34
 go_wp2_with fail
 clear c0 c5 f5
 generalize (w.setCell ⟨r, 5, none⟩ (.int .i64 (ρ.pt + 1))).alloc (.cells z32 29) = wA at *
 refine (HOF.out wA HXA.out).mono ?_
 rintro e w1 ⟨rfl, hk1⟩
 have HRB := hid_of (HRA.out.same (hk1.alloc (.cells ds 29)))
 have HKB : Hid (Kept (fun k => k = r) w (w1.alloc (.cells ds 29))) := (HKA.out.trans (hk1.mono (fun _ _ f => f.elim))).alloc _
 have HZB : Hid ((w1.alloc (.cells ds 29)).heap[w.heap.size]? = some (.cells z32 29 (0, 0))) := ((hk1.alloc (.cells ds 29)).block _ (heap_lt HZA.out) (fun f => f)).trans HZA.out
 have HDB : Hid ((w1.alloc (.cells ds 29)).heap[w1.heap.size]? = some (.cells ds 29 (0, 0))) := alloc_new _ _ rfl
 have HXB : Hid (BIn (w1.alloc (.cells ds 29)) (.slice bo xs.length bc) xs) := HXA.out.kept2 (hk1.alloc _) (fun _ _ _ f => f)
 have hb6 : w.heap.size < w1.heap.size := Nat.lt_of_lt_of_le (heap_lt HZA.out) hk1.size
 clear hk1 HOF HRA HKA HZA HXA
 go_wp2_with (first | (refine wpList_store_row rfl 29 _ _ rfl w1.heap.size ds rfl rfl 29 _ (alloc_new _ _ rfl) HDS.out HOS.out hone ?_; rw [setRow_new _ _ _ _ rfl]) | refine wpList_load_row rfl 29 _ rfl w1.heap.size rfl 29 ds (0, 0) _ HDB.out Tryz.underlying29 rfl HDS.out ?_)
 refine (HPL.out _ HRB.out).mono ?_
 rintro e w3 ⟨rfl, hk3⟩
 have HR3 := hid_of (HRB.out.same hk3)
 have HK3 : Hid (Kept (fun k => k = r) w w3) := HKB.out.trans (hk3.mono (fun _ _ f => f.elim))
 have HZ3 : Hid (w3.heap[w.heap.size]? = some (.cells z32 29 (0, 0))) := (hk3.block _ (heap_lt HZB.out) (fun f => f)).trans HZB.out
 have HD3 : Hid (w3.heap[w1.heap.size]? = some (.cells ds 29 (0, 0))) := (hk3.block _ (heap_lt HDB.out) (fun f => f)).trans HDB.out
 have HX3 : Hid (BIn w3 (.slice bo xs.length bc) xs) := HXB.out.kept2 hk3 (fun _ _ _ f => f)
 clear hk3 HPL HRB HKB HZB HDB HXB
 obtain ⟨b6, hb6e⟩ : ∃ q, q = w1.heap.size := ⟨_, rfl⟩
 rw [← hb6e] at HD3 hb6 ⊢
 clear hb6e
 obtain ⟨q3, q4, q5⟩ := HCL.out w3 HR3.out
 have HBB := hid_of q5
 clear q5
 go_wp2_with fail
 refine (HSM.out _ HBB.out HX3.out).mono ?_
 rintro e w4 ⟨rfl, hw4⟩
 have hw4' := hw4.symm
 subst hw4'
 clear hw4 HBB HSM
 clear q3 q4
 go_upto_region 8 with fail
 refine wp_region_held_drew (S := fun w' => Kept (fun _ => False) w3 w') (by kernel_rfl) ((Kept.refl _ _).drew) (fun hHeld => ?_)
 iterate 14
  refine tkn (v := ?_) 0 rfl ?_ ?_; rotate_left 1
  ·intro w hSw; obtain ⟨q3, q4, q5⟩ := HCL.out w (HR3.out.same hSw); have q0 := HWD.out w (HR3.out.same hSw); clear q5; go_simp; try with_reducible rfl
  try simp only [Act.put, tdy]
 refine tkg 15 (.agg ds) rfl (yields_row (by rfl) 29 _ rfl b6 rfl _ _ _ _ (fun w hSw => (hSw.block _ (heap_lt HD3.out) (fun f => f)).trans HD3.out) Tryz.underlying29 rfl HDS.out) ?_
 try simp only [Act.put, tdy]
 refine wpAnyH_ready (rs := [14]) (by kernel_rfl) (by simp) ?_
 refine AllReadyH.cons rfl (fun K hK => ?_) .nil
 go_simp
 refine (HOF2.out _ (HCL.out _ (HR3.out.same ((Kept.refl _ _).drew))).2.2).mono ?_
 rintro e w5 ⟨rfl, hk5⟩
 have HK35 := hid_of (((Kept.refl (fun _ => False) w3).drew).trans hk5)
 refine hK.out _ _ HK35.out (fun hHeld => ?_)
 clear hK K hk5
 try simp only [Act.put, tdy]
 refine tkp (v := ?_) 16 rfl ?_ ?_; rotate_left 1
 ·intro w hSw; have hq := HEQ.out w; go_simp; try with_reducible rfl
 try simp only [Act.put, tdy]
 refine tkp (v := ?_) 17 rfl ?_ ?_; rotate_left 1
 ·intro w hSw; go_simp; try with_reducible rfl
 try simp only [Act.put, tdy]
 refine wpAnyH_done (by kernel_rfl) ?_ _
 have HR5 := hid_of (HR3.out.same HK35.out)
 have HK5 : Hid (Kept (fun k => k = r) w w5) := HK3.out.trans (HK35.out.mono (fun _ _ f => f.elim))
 have HZ5 : Hid (w5.heap[w.heap.size]? = some (.cells z32 29 (0, 0))) := (HK35.out.block _ (heap_lt HZ3.out) (fun f => f)).trans HZ3.out
 have HD5 : Hid (w5.heap[b6]? = some (.cells ds 29 (0, 0))) := (HK35.out.block _ (heap_lt HD3.out) (fun f => f)).trans HD3.out
 have HX5 : Hid (BIn w5 (.slice bo xs.length bc) xs) := HX3.out.kept2 HK35.out (fun _ _ _ f => f)
 clear hHeld HK35 HR3 HK3 HZ3 HD3 HX3
 go_wp2_with (refine wpList_load_row rfl 29 _ rfl b6 rfl 29 ds (0, 0) _ HD5.out Tryz.underlying29 rfl HDS.out ?_)
 refine (HRM.out _ HR5.out).mono ?_
 rintro e w7 ⟨rfl, hk7⟩
 have HR7 := hid_of (HR5.out.same hk7)
 have HK7 : Hid (Kept (fun k => k = r) w w7) := HK5.out.trans (hk7.mono (fun _ _ f => f.elim))
 have HZ7 : Hid (w7.heap[w.heap.size]? = some (.cells z32 29 (0, 0))) := (hk7.block _ (heap_lt HZ5.out) (fun f => f)).trans HZ5.out
 have HD7 : Hid (w7.heap[b6]? = some (.cells ds 29 (0, 0))) := (hk7.block _ (heap_lt HD5.out) (fun f => f)).trans HD5.out
 have HX7 : Hid (BIn w7 (.slice bo xs.length bc) xs) := HX5.out.kept2 hk7 (fun _ _ _ f => f)
 clear hk7 HRM
 go_wp2_with (refine wpList_load_row rfl 29 _ rfl b6 rfl 29 ds (0, 0) _ HD7.out Tryz.underlying29 rfl HDS.out ?_)
 refine (HLY.out _ HR7.out HX7.out).mono ?_
 rintro e w8 ⟨⟨v8, rfl⟩, lv8, bv8, hr8, hk8, hl8, hb8⟩
 have hs8 : w.heap.size < w7.heap.size := heap_lt HZ7.out
 have HZ8 : Hid (w8.heap[w.heap.size]? = some (.cells z32 29 (0, 0))) := (hk8.block _ (heap_lt HZ7.out) (fun e => by rcases e with e | e; exact absurd e.symm (Nat.ne_of_lt HRL.out); exact absurd (HLVL.out _ e) (by omega))).trans HZ7.out
 have HD8 : Hid (w8.heap[b6]? = some (.cells ds 29 (0, 0))) := (hk8.block _ (heap_lt HD7.out) (fun e => by rcases e with e | e; have := HRL.out; omega; have := HLVL.out _ e; omega)).trans HD7.out
 have HKR := hid_of (kept_rowx w8 w.heap.size ds)
 have HRR := hid_of (setRow_heap w8 w.heap.size _ ds 29 (0, 0) HZ8.out)
 have HFN : Hid (LayR w (w8.setRow w.heap.size ds) r lv ρ.put1 (frontOf k xs) xs) := by
  refine ⟨lv8, bv8, hr8.kept HKR.out (fun q hq e => ?_) (fun b hb h0 q hq e => ?_), ?_, ?_, fun g hg => Nat.le_trans (Nat.le_of_lt hs8) (hb8 g hg)⟩
  ·rcases hq with rfl | hq
   ·exact absurd e (Nat.ne_of_lt HRL.out)
   ·rcases hl8 with rfl | h9
    ·exact absurd (HLVL.out q hq) (by omega)
    ·have := h9 q hq; omega
  ·rcases layB_mem _ _ _ hb with hb | rfl
   ·have := HOLD.out b hb h0 q hq; omega
   ·have := hb8 q hq; omega
  ·exact ((HK7.out.mono (fun _ _ e => .inl e)).trans hk8).setRow (.inl (Nat.le_refl _)) _
  ·rcases hl8 with h9 | h9
   ·exact .inl h9
   ·exact .inr (fun q hq => Nat.le_trans (Nat.le_of_lt hs8) (h9 q hq))
 clear hr8 hk8 hl8 hb8 HLY HR7 HK7 HX7 HZ7 HD7
 go_wp2_with (first | refine wpList_load_row rfl 29 _ rfl b6 rfl 29 ds (0, 0) _ HD8.out Tryz.underlying29 rfl HDS.out ?_ | refine wpList_store_row rfl 29 _ _ rfl w.heap.size ds rfl rfl 29 _ HZ8.out HDS.out HOS.out hone ?_)
 try simp only [Act.put]
 refine bodyPost_ret (v := .tuple #[.agg ds, .int .i64 0]) ?_ rfl ⟨rfl, HFN.out⟩
 exact results_row_tmp (fn := Tryz.f34) (p := 4) (u := 5) (by rfl) _ _ w.heap.size 29 ds (0, 0) _ (by rfl) HRR.out Tryz.underlying29 rfl HDS.out
end Go.Proofs.YtjdbmjkidljhpaaGreatDoor

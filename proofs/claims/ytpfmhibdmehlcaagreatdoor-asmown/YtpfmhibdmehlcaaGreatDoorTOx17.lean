import Derived.Test.YtpfmhibdmehlcaaGreatDoorTOx16
import Derived.Test.YtpfmhibdmehlcaaGreatDoorTOx2
namespace Go.Proofs.YtpfmhibdmehlcaaGreatDoor
open Go.RowKit
set_option linter.unusedVariables false
set_option linter.unusedSimpArgs false
set_option maxRecDepth 100000
def markI (i : Nat) : IN := ⟨-9, i⟩
structure LentI (w : World) (g : Nat) (ys : List IN) (j : Nat) : Prop where
 there : w.there g 0 ((ys.length + 67) * 2)
 ents : ∀ i y, ys[i]? = some y → w.rangeAt g (i * 2) y.cells
 marks : ∀ t, t < j → w.rangeAt g ((ys.length + t) * 2) (markI (ys.length + t)).cells
theorem LentI.step {w : World} {g : Nat} {ys : List IN} {j : Nat} (h : LentI w g ys j) (hj : j < 67) : LentI (w.setCells g ((ys.length + j) * 2) (markI (ys.length + j)).cells) g ys (j + 1) := by
 have hth : w.there g ((ys.length + j) * 2) (markI (ys.length + j)).cells.length := there_sub h.there (by show _ + 2 ≤ _; omega)
 refine ⟨World.there_setCells h.there _ _ _, fun i y hi => ?_, fun t ht => ?_⟩
 ·refine World.rangeAt_setCells_apart (h.ents i y hi) _ _ _ (.inr (.inl ?_))
  have hil : i < ys.length := (List.getElem?_eq_some_iff.1 hi).1
  show i * 2 + 2 ≤ _
  omega
 ·rcases Nat.lt_or_ge t j with h1 | h1
  ·refine World.rangeAt_setCells_apart (h.marks t h1) _ _ _ (.inr (.inl ?_))
   show (ys.length + t) * 2 + 2 ≤ _
   omega
  ·have e : t = j := by omega
   subst e
   exact World.rangeAt_setCells_same _ _ _ _ hth
theorem there_kept {S : Nat → Prop} {w w' : World} {g n : Nat} (h : w.there g 0 n) (hk : Kept S w w') (hS : ¬ S g) : w'.there g 0 n := fun i hi => by
 have h1 := h i hi
 cases hb : w.heap[g]? with
 | none =>
  have := h1.1
  simp [World.cell?, hb] at this
 | some ob =>
  have hb' := (hk.block g (Array.getElem?_eq_some_iff.1 hb).1 hS).trans hb
  unfold World.cell? World.frozen? at h1 ⊢
  simp only [hb, hb'] at h1 ⊢
  exact h1
theorem LentI.kept {S : Nat → Prop} {w w' : World} {g : Nat} {ys : List IN} {j : Nat} (h : LentI w g ys j) (hk : Kept S w w') (hS : ¬ S g) : LentI w' g ys j :=
 ⟨there_kept h.there hk hS, fun i y hy k u hu => hk.cell (h.ents i y hy k u hu) hS, fun t ht k u hu => hk.cell (h.marks t ht k u hu) hS⟩
theorem LentI.row {w : World} {g : Nat} {ys : List IN} {j c : Nat} (h : LentI w g ys j) : RowI w (.slice (some ⟨g, 0, none⟩) ys.length c) ys := by
 refine .inr ⟨g, 0, c, rfl, fun i y hy => ?_⟩
 rw [Nat.zero_add]
 exact h.ents i y hy
def zin (n : Nat) : Array Value := madeCells (Value.agg #[.int .i64 0, .int .i64 0]).cells n
theorem zin_size (n : Nat) : (zin n).size = n := size_madeCells _ n
theorem make_ins (W : World) (l : Nat) (h : l * 16 ≤ 140737488355328) : (Instr.makeSlice 49 (.int .i64 (l : Int)) (.int .i64 (l : Int))).run Tryz.prog W = .ok (.slice (some ⟨W.heap.size, 0, none⟩) l l) (W.alloc (.cells (zin (l * 2)) 48)) := by
 obtain ⟨i0, hi, hz0, hz1, hz2⟩ := info_parts Tryz.info48
 have := run_make (P := Tryz.prog) W 49 48 i0 _ Tryz.underlying49 hi hz0 .i64 .i64 (l : Int) (l : Int) (by omega) (by omega) (by rw [hz2]; omega) (by omega)
 rw [hz1] at this
 simpa [zin, Value.cells] using this
theorem run_copy52 (w : World) (ty : TypeId) (b dLen dCap : Nat) (a : Option Addr) (n sCap : Nat) (cs : List Value) (hn : cs.length = n * 2) (hle : n ≤ dLen) (ha : a = none → n = 0)
  (hsrc : ∀ ad, a = some ad → ∀ j v, cs[j]? = some v → w.cell? (ad.add j) = some v) (hth : w.there b 0 (n * 2)) (h1 : ∀ v ∈ cs, v.oneCell' = true) :
  (Builtin.copy_ #[49, 49] ty #[.slice (some ⟨b, 0, none⟩) dLen dCap, .slice a n sCap]).run Tryz.prog w = .ok (goInt n) (w.setCells b 0 cs) := by
 obtain ⟨i0, hi, hz0, hz1, hz2⟩ := info_parts Tryz.info48
 have hst := run_storeCells_cells (P := Tryz.prog) b 0 cs 0 w (fun j hj => by simpa using (hth j (by omega)).1) (fun j hj => by simpa using (hth j (by omega)).2) h1
 have hmin : Nat.min n dLen = n := Nat.min_eq_left hle
 cases a with
 | none =>
  have h0 := ha rfl
  subst h0
  have e : cs = [] := List.length_eq_zero_iff.1 (by omega)
  subst e
  simp [Builtin.copy_, run_underlying Tryz.underlying49, Builtin.lenOf, Builtin.firstCells, sizeOf, typeInfo, hi, hz1, hmin, storeCells, World.setCells]
 | some ad =>
  have hl := run_loadCells_list (P := Tryz.prog) w ad cs (hsrc ad rfl)
  rw [hn] at hl
  simp [Builtin.copy_, run_underlying Tryz.underlying49, Builtin.lenOf, Builtin.firstCells, sizeOf, typeInfo, hi, hz1, hmin, hl, hst]
theorem icells_one (ys : List IN) : ∀ u ∈ icells ys, u.oneCell' = true := by
 intro u hu
 obtain ⟨y, _, hy⟩ := List.mem_flatMap.1 hu
 simp [IN.cells] at hy
 rcases hy with rfl | rfl <;> rfl
theorem rowI_cells {w : World} {a : Addr} {c : Nat} {ys : List IN} (h : RowI w (.slice (some a) ys.length c) ys) : ∀ j v, (icells ys)[j]? = some v → w.cell? (a.add j) = some v := by
 intro j v hj
 have hl := (List.getElem?_eq_some_iff.1 hj).1
 rw [icells_length ys] at hl
 rcases h with ⟨e, _⟩ | ⟨g, o, c', e, hc⟩
 ·rw [e] at hl; simp at hl
 ·cases e
  have hq : j / 2 < ys.length := by omega
  obtain ⟨y, hyi⟩ : ∃ y, ys[j / 2]? = some y := ⟨_, List.getElem?_eq_getElem hq⟩
  have hat := icells_at ys (j / 2) y hyi (j % 2) (by omega)
  rw [show j / 2 * 2 + j % 2 = j by omega, hj] at hat
  have := hc (j / 2) y hyi (j % 2) v hat.symm
  rw [Addr.add_lit, show o + j = o + j / 2 * 2 + j % 2 by omega]
  exact this
theorem lendI_copy (w : World) (ao : Option Addr) (c : Nat) (ys : List IN) (hv : RowI w (.slice ao ys.length c) ys) : ∃ W', (Builtin.copy_ #[49, 49] 3 #[.slice (some ⟨w.heap.size, 0, none⟩) (ys.length + 67) (ys.length + 67), .slice ao ys.length c]).run Tryz.prog (w.alloc (.cells (zin ((ys.length + 67) * 2)) 48)) = .ok (goInt ys.length) W' ∧
  LentI W' w.heap.size ys 0 ∧ Kept (fun _ => False) w W' := by
 have hb := heap_alloc_new w (.cells (zin ((ys.length + 67) * 2)) 48)
 have hkA : Kept (fun _ => False) w (w.alloc (.cells (zin ((ys.length + 67) * 2)) 48)) := (Kept.refl _ _).alloc _
 have hvA := hv.kept hkA (fun _ _ f => f)
 have hth : (w.alloc (.cells (zin ((ys.length + 67) * 2)) 48)).there w.heap.size 0 ((ys.length + 67) * 2) := fun j hj => by
  refine ⟨?_, frozen_block _ _ _ _ _ hb⟩
  rw [cell_block _ _ _ _ _ _ hb, Array.getElem?_eq_getElem (by rw [zin_size]; omega)]
  rfl
 have hel : (icells ys).length = ys.length * 2 := by rw [icells_length]; omega
 have hr := run_copy52 (w.alloc (.cells (zin ((ys.length + 67) * 2)) 48)) 3 w.heap.size (ys.length + 67) (ys.length + 67) ao ys.length c (icells ys) hel (by omega) (fun e => by
  subst e
  rcases hv with ⟨e, _⟩ | ⟨g, o, c', e, _⟩
  ·rw [e]; rfl
  ·cases e) (fun ad e => by
  subst e
  exact rowI_cells hvA) (there_sub hth (by omega)) (icells_one ys)
 refine ⟨_, hr, ⟨World.there_setCells hth _ _ _, fun i y hi j u hj => ?_, fun t ht => absurd ht (by omega)⟩, hkA.step (kept_cells _ _ _ _) (fun i hi e => by omega)⟩
 have hj2 : j < 2 := by
  have := (List.getElem?_eq_some_iff.1 hj).1
  simpa [IN.cells] using this
 have hs := World.rangeAt_setCells_same (w.alloc (.cells (zin ((ys.length + 67) * 2)) 48)) w.heap.size 0 (icells ys) (there_sub hth (by rw [hel]; omega)) (i * 2 + j) u (by rw [icells_at ys i y hi j hj2, hj])
 rwa [Nat.zero_add] at hs
set_option maxHeartbeats 2000000 in
theorem lendI_any (ao : Option Addr) (c : Nat) (ys : List IN) (w : World) (hv : RowI w (.slice ao ys.length c) ys) (hn : (ys.length + 67) * 16 ≤ 140737488355328) :
  Calls Tryz.prog 27 #[.slice ao ys.length c] w fun e w' => e = .returned (.slice (some ⟨w.heap.size, 0, none⟩) ys.length (ys.length + 67)) ∧ LentI w' w.heap.size ys 67 ∧ Kept (fun _ => False) w w' := by
 obtain ⟨W', hcp, hl, hk⟩ := lendI_copy w ao c ys hv
 have mk := make_ins w (ys.length + 67) hn
 rw [show ((ys.length + 67 : Nat) : Int) = (ys.length : Int) + 67 from by omega] at mk
 have HL := hid_of hl
 have HK := hid_of hk
 obtain ⟨n, hN⟩ := nmd (ys.length)
 have HN := hid_of hN
 rw [← hN] at mk hcp hn ⊢
 clear hl hk hv hN
 go_enter Tryz.func27, Tryz.ntmps27
 go_wp2
 clear mk hcp
 go_loopw [4] (fun i wr => ∃ j : Nat, j ≤ 67 ∧ i = .int .i64 ((n + j : Nat) : Int) ∧ LentI wr w.heap.size ys j ∧ Kept (fun _ => False) w wr) (fun i _ => (n + 67) - (intOf i).toNat)
 case atStart => exact ⟨0, by omega, by simp, HL.out, HK.out⟩
 case round =>
  obtain ⟨j, hj, rfl, hLe, hKe⟩ := hrel
  obtain ⟨m, hm⟩ := nmd (n + j)
  by_cases hlt : j < 67
  ·have hth : wr.there w.heap.size (m * 2) (#[.int .i64 (-9), .int .i64 (m : Int)] : Array Value).size := there_sub hLe.there (by show m * 2 + 2 ≤ _; rw [← HN.out]; omega)
   have hLS := hLe.step hlt
   rw [← HN.out, ← hm] at hLS
   have hjI : (m : Int) < (n : Int) + 67 := by omega
   have hm0 : (0 : Int) ≤ (m : Int) := by omega
   have HREL : Hid (LentI (wr.setCells w.heap.size (m * 2) (markI m).cells) w.heap.size ys (j + 1) ∧ Kept (fun _ => False) w (wr.setCells w.heap.size (m * 2) (markI m).cells)) := ⟨hLS, hKe.step (kept_cells _ _ _ _) (fun i hi e => by omega)⟩
   have HM := hid_of hm
   rw [← hm]
   clear hLe hKe HL HK hLS hm
   go_upto_region 5 with (refine wpList_store_mid rfl 48 _ _ rfl w.heap.size (m * 2) #[.int .i64 (-9), .int .i64 (m : Int)] rfl rfl hth size52 (two_one _ _ rfl rfl) ?_)
   have hmj := HM.out
   have HREL2 : Hid (LentI (wr.setCells w.heap.size (m * 2) (#[.int .i64 (-9), .int .i64 (m : Int)] : Array Value).toList) w.heap.size ys (j + 1) ∧ Kept (fun _ => False) w (wr.setCells w.heap.size (m * 2) (#[.int .i64 (-9), .int .i64 (m : Int)] : Array Value).toList)) := HREL.out
   generalize wr.setCells w.heap.size (m * 2) (#[.int .i64 (-9), .int .i64 (m : Int)] : Array Value).toList = w3 at *
   clear hth HREL
   go_wp2
   go_roundw
   case rel => exact ⟨j + 1, by omega, by rw [show n + (j + 1) = m + 1 by omega]; go_num, HREL2.out.1, HREL2.out.2⟩
   case measure => simp [intOf]; omega
  ·obtain rfl : j = 67 := by omega
   have HLS := hid_of hLe
   have HKS := hid_of hKe
   clear hLe hKe HL HK hm
   go_wp2
   go_ret
   exact ⟨rfl, HLS.out, HKS.out⟩
end Go.Proofs.YtpfmhibdmehlcaaGreatDoor
namespace Go.Proofs.YtpfmhibdmehlcaaGreatDoor
open Go.RowKit
set_option linter.unusedVariables false
set_option linter.unusedSimpArgs false
def Lent2 (w : World) (g : Nat) (xs : List Int) (j : Nat) : Prop :=
 ∃ cur : Array Value, w.heap[g]? = some (.cells cur 5 (0, 0)) ∧ cur.size = xs.length + 67 ∧ (∀ i, i < xs.length → cur[i]? = some (.int .u8 (xs.getD i 0))) ∧ (∀ i, i < j → cur[xs.length + i]? = some (.int .u8 169))
theorem Lent2.cells {w : World} {g : Nat} {xs : List Int} {j k : Nat} (h : Lent2 w g xs j) (hk : k < xs.length + 67) : (∃ u, w.cell? ⟨g, k, none⟩ = some u) ∧ w.frozen? ⟨g, k, none⟩ = false := by
 obtain ⟨cur, h0, h1, h2, h3⟩ := h
 refine ⟨⟨cur[k]'(by omega), ?_⟩, frozen_block _ _ _ _ _ h0⟩
 rw [cell_block _ _ _ _ _ _ h0]
 exact Array.getElem?_eq_getElem (by omega)
theorem Lent2.step {w : World} {g : Nat} {xs : List Int} {j : Nat} (h : Lent2 w g xs j) (hj : j < 67) : Lent2 (w.setCell ⟨g, xs.length + j, none⟩ (.int .u8 169)) g xs (j + 1) := by
 obtain ⟨cur, h0, h1, h2, h3⟩ := h
 refine ⟨_, set_block _ _ _ _ _ _ h0 _, by simp [h1], fun i hi => ?_, fun i hi => ?_⟩
 ·rw [Array.getElem?_setIfInBounds, if_neg (by omega)]
  exact h2 i hi
 ·rw [Array.getElem?_setIfInBounds]
  by_cases e : i = j
  ·subst e
   rw [if_pos rfl, if_pos (by omega)]
  ·rw [if_neg (by omega)]
   exact h3 i (by omega)
theorem Lent2.kept {S : Nat → Prop} {w w' : World} {g : Nat} {xs : List Int} {j : Nat} (h : Lent2 w g xs j) (hk : Kept S w w') (hs : ¬ S g) : Lent2 w' g xs j := by
 obtain ⟨cur, h0, h1⟩ := h
 exact ⟨cur, (hk.block g (Array.getElem?_eq_some_iff.1 h0).1 hs).trans h0, h1⟩
theorem mapc2 {w : World} {g o : Nat} {xs : List Int} (h : ∀ i, i < xs.length → w.cell? ⟨g, o + i, none⟩ = some (.int .u8 (xs.getD i 0))) : ∀ j u, (xs.map (Value.int .u8))[j]? = some u → w.cell? ((⟨g, o, none⟩ : Addr).add j) = some u := by
 intro j u hj
 have hl : j < xs.length := by
  have := (List.getElem?_eq_some_iff.1 hj).1
  simpa using this
 rw [Addr.add_lit, h j hl]
 rw [List.getElem?_map, List.getElem?_eq_getElem hl] at hj
 simpa [List.getD, List.getElem?_eq_getElem hl] using hj
theorem lend2_copy (w : World) (v : Value) (xs : List Int) (hx : IsB w v xs) (ty : TypeId) : ∃ W', (Builtin.copy_ #[22, 22] ty #[.slice (some ⟨w.heap.size, 0, none⟩) (xs.length + 67) (xs.length + 67), v]).run Tryz.prog (w.alloc (.cells (zer (xs.length + 67)) 5)) = .ok (goInt xs.length) W' ∧
  Lent2 W' w.heap.size xs 0 ∧ Kept (fun _ => False) w W' := by
 have hg : (w.alloc (.cells (zer (xs.length + 67)) 5)).heap[w.heap.size]? = some (.cells (zer (xs.length + 67)) 5) := heap_alloc_new _ _
 rcases hx with ⟨rfl, ao, c, rfl⟩ | ⟨b, o, c, rfl, hx⟩
 ·refine ⟨_, run_copy_none (P := Tryz.prog) _ 22 22 ty 5 _ _ _ _ _ _ Tryz.underlying22 info5size (by simp), ⟨_, hg, by rw [zer_size], fun i hi => absurd hi (by simp), fun i hi => absurd hi (by omega)⟩, (Kept.refl _ _).alloc _⟩
 ·have hr := run_copy_row (P := Tryz.prog) (w.alloc (.cells (zer (xs.length + 67)) 5)) 22 22 ty 5 w.heap.size 0 (xs.length + 67) (xs.length + 67) ⟨b, o, none⟩ xs.length c (zer (xs.length + 67)) 5 (xs.map (Value.int .u8)) Tryz.underlying22 info5size hg (by simp) (fun j u hj => ((Kept.refl (fun _ => False) w).alloc _).cell (mapc2 hx j u hj) id) (by simp [zer_size]) (map_one xs)
  rw [List.length_map] at hr
  refine ⟨_, hr, ⟨_, setRow_heap _ _ _ _ _ _ hg, ?_, fun i hi => ?_, fun i hi => absurd hi (by omega)⟩, ?_⟩
  ·simp [zer_size]
  ·simp [List.getElem?_append, hi, List.getD]
  ·refine ⟨rfl, rfl, rfl, by simp, fun k hk _ => ?_⟩
   rw [setRow_other _ _ _ _ (by omega)]
   exact Below.heap_alloc _ _ _ hk
set_option maxRecDepth 100000 in
set_option maxHeartbeats 1000000 in
theorem lend2_any (v : Value) (xs : List Int) (w : World) (hx : IsB w v xs) (hn : xs.length ≤ 140737488355261) :
  Calls Tryz.prog 26 #[v] w fun e w' => e = .returned (.slice (some ⟨w.heap.size, 0, none⟩) xs.length (xs.length + 67)) ∧ Lent2 w' w.heap.size xs 67 ∧ Kept (fun _ => False) w w' := by
 obtain ⟨ao, c, rfl⟩ := hx.shape
 obtain ⟨W', hcp, hl, hk⟩ := lend2_copy w _ xs hx 3
 have mk := make_any w (xs.length + 67) (by omega)
 rw [show ((xs.length + 67 : Nat) : Int) = (xs.length : Int) + 67 from by omega] at mk
 have HL := hid_of hl
 have HK := hid_of hk
 clear hl hk hx
 go_enter Tryz.func26, Tryz.ntmps26
 go_wp2
 clear mk hcp
 generalize hN : xs.length = n at *
 have HN := hid_of hN
 clear hN
 go_loopw [4] (fun i wr => ∃ j : Nat, j ≤ 67 ∧ i = .int .i64 ((n : Int) + (j : Int)) ∧ Lent2 wr w.heap.size xs j ∧ Kept (fun _ => False) w wr) (fun i _ => (n + 67) - (intOf i).toNat)
 case atStart => exact ⟨0, by omega, by simp, HL.out, HK.out⟩
 case round =>
  obtain ⟨j, hj, rfl, hLe, hKe⟩ := hrel
  by_cases hlt : j < 67
  ·obtain ⟨⟨u, hu⟩, hfz⟩ := hLe.cells (k := n + j) (by rw [HN.out]; omega)
   have HLS := hid_of (hLe.step hlt)
   rw [HN.out] at HLS
   have HKS : Hid (Kept (fun _ => False) w (wr.setCell ⟨w.heap.size, n + j, none⟩ (.int .u8 169))) := hKe.setCell (.inl (Nat.le_refl _)) _
   have hjI : (n : Int) + (j : Int) < (n : Int) + 67 := by omega
   clear hLe hKe HL HK
   go_wp2
   go_roundw
   case rel => exact ⟨j + 1, by omega, by go_num, HLS.out, HKS.out⟩
   case measure => simp [intOf]; omega
  ·obtain rfl : j = 67 := by omega
   have HLS := hid_of hLe
   have HKS := hid_of hKe
   clear hLe hKe HL HK
   go_wp2
   go_ret
   refine ⟨?_, HLS.out, HKS.out⟩
   rw [HN.out]
   rfl
end Go.Proofs.YtpfmhibdmehlcaaGreatDoor

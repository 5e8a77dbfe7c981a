import Derived.Test.YtcahibbfejomcaaGreatDoorTTx46
namespace Go.Proofs.YtcahibbfejomcaaGreatDoor
open Go.RowKit
set_option linter.unusedVariables false
set_option linter.unusedSimpArgs false
def Laid (w : World) : Prop := ∀ t, t < 64 → w.cell? ⟨0, t, none⟩ = some (.int .u32 (kw.getD t 0))
theorem size48 : (Tryz.prog.info? 88).map (·.size) = some 8 := by kernel_rfl
def S8.val (s : S8) : Value := .agg (s.list.map (Value.int .u32)).toArray
theorem pw_flat (s : S8) (k w : Int) : s_pw s k w = (s.h + xo (xo (ror s.e 6) (ror s.e 11)) (ror s.e 25) + xo (an s.e s.f) (an (nt s.e) s.g) + k + w) % 4294967296 := by
 unfold s_pw add
 omega
set_option maxRecDepth 100000 in
set_option maxHeartbeats 1000000 in
theorem turned_any (s : S8) (bs : List Int) (hl : bs.length = 64) (hr : ∀ x ∈ bs, 0 ≤ x ∧ x < 256) (w : World) (hL : Laid w) :
  Calls Tryz.prog 35 #[.agg #[.int .u32 s.a, .int .u32 s.b, .int .u32 s.c, .int .u32 s.d, .int .u32 s.e, .int .u32 s.f, .int .u32 s.g, .int .u32 s.h], .agg (bs.map (Value.int .u8)).toArray] w fun e w' => e = .returned (turn s bs).val ∧ Kept (fun _ => False) w w' := by
 have HR := hid_of hr
 have HL := hid_of hL
 clear hr hL
 have hs49 : (Tryz.prog.info? 89).map (·.size) = some (bs.map (Value.int .u8)).toArray.size := by simp [size49, hl]
 go_enter Tryz.func35, Tryz.ntmps35
 go_wp2_with (first | refine wpList_load_row rfl 89 _ rfl (w.heap.size + 1) rfl 89 (bs.map (Value.int .u8)).toArray (0, 0) _ (alloc_old (alloc_new _ _ (by simp))) Tryz.underlying89 rfl hs49 ?_)
 refine (wide_any bs hl HR.out _).mono ?_
 rintro e w1 ⟨rfl, hk1⟩
 have hS : w1.heap[w.heap.size]? = some (.cells #[.int .u32 s.a, .int .u32 s.b, .int .u32 s.c, .int .u32 s.d, .int .u32 s.e, .int .u32 s.f, .int .u32 s.g, .int .u32 s.h] 88 (0, 0)) :=
  (hk1.block _ (by simp; omega) id).trans (alloc_old (alloc_old (alloc_new _ _ rfl)))
 have hD : w1.heap[w.heap.size + 1 + 1]? = some (.cells #[.int .u32 0, .int .u32 0, .int .u32 0, .int .u32 0, .int .u32 0, .int .u32 0, .int .u32 0, .int .u32 0] 88 (0, 0)) :=
  (hk1.block _ (by simp) id).trans (alloc_new _ _ (by simp))
 have hK : Kept (fun _ => False) w w1 := ((((Kept.refl _ w).alloc _).alloc _).alloc _).trans hk1
 have HS := hid_of hS
 have HD := hid_of hD
 have HK := hid_of hK
 clear hS hD hK hk1
 have hs79 : (Tryz.prog.info? 119).map (·.size) = some ((wide bs).map (Value.int .u32)).toArray.size := by simp [size79, wide_length]
 have h1 := oneCells .u32 (wide bs)
 have hcz : ((wide bs).map (Value.int .u32)).toArray.size = 64 := by simp [wide_length]
 have hat : ∀ t, t < 64 → ((wide bs).map (Value.int .u32)).toArray[t]? = some (.int .u32 ((wide bs).getD t 0)) := fun t ht => by
  simp [List.getD, List.getElem?_eq_getElem (show t < (wide bs).length by rw [wide_length]; exact ht)]
 have HA := hid_of hat
 clear hat
 generalize ((wide bs).map (Value.int .u32)).toArray = cs at *
 go_wp2_with (first | (refine wpList_store_row rfl 119 _ _ rfl w1.heap.size cs rfl rfl 119 _ (alloc_new _ _ rfl) hs79 (Eq.trans rfl hcz.symm) h1 ?_))
 rw [World.setRow_alloc_new]
 simp only [Act.put]
 have hS2 := alloc_old (o := .cells cs 119) HS.out
 have hD2 := alloc_old (o := .cells cs 119) HD.out
 have hW2 := alloc_new w1 (.cells cs 119) rfl
 have hK2 := HK.out.alloc (.cells cs 119)
 generalize w1.alloc (.cells cs 119) = w2 at *
 clear HS HD HK
 have c0 : w2.cell? ⟨w.heap.size, 0, none⟩ = some (.int .u32 s.a) := cell_block _ _ _ _ _ _ hS2
 have c1 : w2.cell? ⟨w.heap.size, 1, none⟩ = some (.int .u32 s.b) := cell_block _ _ _ _ _ _ hS2
 have c2 : w2.cell? ⟨w.heap.size, 2, none⟩ = some (.int .u32 s.c) := cell_block _ _ _ _ _ _ hS2
 have c3 : w2.cell? ⟨w.heap.size, 3, none⟩ = some (.int .u32 s.d) := cell_block _ _ _ _ _ _ hS2
 have c4 : w2.cell? ⟨w.heap.size, 4, none⟩ = some (.int .u32 s.e) := cell_block _ _ _ _ _ _ hS2
 have c5 : w2.cell? ⟨w.heap.size, 5, none⟩ = some (.int .u32 s.f) := cell_block _ _ _ _ _ _ hS2
 have c6 : w2.cell? ⟨w.heap.size, 6, none⟩ = some (.int .u32 s.g) := cell_block _ _ _ _ _ _ hS2
 have c7 : w2.cell? ⟨w.heap.size, 7, none⟩ = some (.int .u32 s.h) := cell_block _ _ _ _ _ _ hS2
 have hLk := HL.out
 have hT : ∀ t, t < 64 → w2.cell? ⟨0, t, none⟩ = some (.int .u32 (kw.getD t 0)) := fun t ht => hK2.cell (HL.out t ht) id
 have hV : ∀ t, t < 64 → w2.cell? ⟨w1.heap.size, t, none⟩ = some (.int .u32 ((wide bs).getD t 0)) := fun t ht => (cell_block _ _ _ _ _ _ hW2).trans (HA.out t ht)
 have HT := hid_of hT
 have HV := hid_of hV
 have HS2 := hid_of hS2
 have HD2 := hid_of hD2
 have HK2 := hid_of hK2
 clear hT hV hLk HA hS2 hD2 hK2 hW2 HL
 go_quiet (fail)
 go_wp2
 go_loopw [6, 7, 8, 9, 10, 11, 12, 13, 35] (fun a b c d e f g h i wr => ∃ k q : Nat, k ≤ 64 ∧ i = .int .i64 k ∧ wr = w2.drewN q ∧
   a = .int .u32 (rnds s (wide bs) k).a ∧ b = .int .u32 (rnds s (wide bs) k).b ∧ c = .int .u32 (rnds s (wide bs) k).c ∧ d = .int .u32 (rnds s (wide bs) k).d ∧
   e = .int .u32 (rnds s (wide bs) k).e ∧ f = .int .u32 (rnds s (wide bs) k).f ∧ g = .int .u32 (rnds s (wide bs) k).g ∧ h = .int .u32 (rnds s (wide bs) k).h) (fun _ _ _ _ _ _ _ _ i _ => 64 - (intOf i).toNat)
 case atStart => exact ⟨0, _, by omega, rfl, rfl, rfl, rfl, rfl, rfl, rfl, rfl, rfl, rfl⟩
 case round =>
  obtain ⟨k, q, hk, rfl, rfl, rfl, rfl, rfl, rfl, rfl, rfl, rfl, rfl⟩ := hrel
  by_cases hlt : k < 64
  ·have hg : w2.cell? ⟨0, k, none⟩ = some (.int .u32 (kw.getD k 0)) := HT.out k hlt
   have hv : w2.cell? ⟨w1.heap.size, k, none⟩ = some (.int .u32 ((wide bs).getD k 0)) := HV.out k hlt
   have hX : rnds s (wide bs) (k + 1) = rnd (rnds s (wide bs) k) (kw.getD k 0) ((wide bs).getD k 0) := rfl
   have HX := hid_of hX
   clear hX
   generalize rnds s (wide bs) k = st at *
   generalize kw.getD k 0 = kv at *
   generalize (wide bs).getD k 0 = wv at *
   have hb0 : (0 : Int) ≤ (k : Int) := by omega
   have hb1 : (k : Int) < 64 := by omega
   go_wp2
   go_quiet (first | (go_at_call 51; exact (ror_int _ _ (by decide) (by decide) _).mono (fun _ _ h => ⟨h.1, _, h.2⟩)))
   go_wp2_with (first | (go_at_call 51; refine (ror_int _ _ (by decide) (by decide) _).mono ?_; rintro e w' ⟨rfl, rfl⟩))
   go_roundw
   case rel =>
    refine ⟨k + 1, _, by omega, by go_num, rfl, ?_⟩
    rw [HX.out]
    refine ⟨congrArg _ ?_, rfl, rfl, rfl, congrArg _ ?_, rfl, rfl, rfl⟩
    ·show _ = (s_pw st kv wv + qw st) % 4294967296
     rw [pw_flat]
     rfl
    ·show _ = (st.d + s_pw st kv wv) % 4294967296
     rw [pw_flat]
     rfl
   case measure => simp [intOf]; omega
  ·obtain rfl : k = 64 := by omega
   have hX : turn s bs = s.add (rnds s (wide bs) 64) := rfl
   have HX := hid_of hX
   clear hX
   generalize rnds s (wide bs) 64 = v at *
   have HD3 : Hid ((w2.drewN q).heap[w.heap.size + 1 + 1]? = some (.cells #[.int .u32 0, .int .u32 0, .int .u32 0, .int .u32 0, .int .u32 0, .int .u32 0, .int .u32 0, .int .u32 0] 88 (0, 0))) := HD2.out
   have d0 : w2.cell? ⟨w.heap.size + 1 + 1, 0, none⟩ = some (.int .u32 0) := cell_block _ _ _ _ _ _ HD2.out
   have f0 : w2.frozen? ⟨w.heap.size + 1 + 1, 0, none⟩ = false := frozen_block _ _ _ _ _ HD2.out
   have d1 : w2.cell? ⟨w.heap.size + 1 + 1, 1, none⟩ = some (.int .u32 0) := cell_block _ _ _ _ _ _ HD2.out
   have f1 : w2.frozen? ⟨w.heap.size + 1 + 1, 1, none⟩ = false := frozen_block _ _ _ _ _ HD2.out
   have d2 : w2.cell? ⟨w.heap.size + 1 + 1, 2, none⟩ = some (.int .u32 0) := cell_block _ _ _ _ _ _ HD2.out
   have f2 : w2.frozen? ⟨w.heap.size + 1 + 1, 2, none⟩ = false := frozen_block _ _ _ _ _ HD2.out
   have d3 : w2.cell? ⟨w.heap.size + 1 + 1, 3, none⟩ = some (.int .u32 0) := cell_block _ _ _ _ _ _ HD2.out
   have f3 : w2.frozen? ⟨w.heap.size + 1 + 1, 3, none⟩ = false := frozen_block _ _ _ _ _ HD2.out
   have d4 : w2.cell? ⟨w.heap.size + 1 + 1, 4, none⟩ = some (.int .u32 0) := cell_block _ _ _ _ _ _ HD2.out
   have f4 : w2.frozen? ⟨w.heap.size + 1 + 1, 4, none⟩ = false := frozen_block _ _ _ _ _ HD2.out
   have d5 : w2.cell? ⟨w.heap.size + 1 + 1, 5, none⟩ = some (.int .u32 0) := cell_block _ _ _ _ _ _ HD2.out
   have f5 : w2.frozen? ⟨w.heap.size + 1 + 1, 5, none⟩ = false := frozen_block _ _ _ _ _ HD2.out
   have d6 : w2.cell? ⟨w.heap.size + 1 + 1, 6, none⟩ = some (.int .u32 0) := cell_block _ _ _ _ _ _ HD2.out
   have f6 : w2.frozen? ⟨w.heap.size + 1 + 1, 6, none⟩ = false := frozen_block _ _ _ _ _ HD2.out
   have d7 : w2.cell? ⟨w.heap.size + 1 + 1, 7, none⟩ = some (.int .u32 0) := cell_block _ _ _ _ _ _ HD2.out
   have f7 : w2.frozen? ⟨w.heap.size + 1 + 1, 7, none⟩ = false := frozen_block _ _ _ _ _ HD2.out
   go_wp2
   have hh : w.heap.size ≤ w.heap.size + 1 + 1 ∨ False := .inl (by omega)
   refine bodyPost_ret (v := .agg #[.int .u32 ((s.a + v.a) % 4294967296), .int .u32 ((s.b + v.b) % 4294967296), .int .u32 ((s.c + v.c) % 4294967296), .int .u32 ((s.d + v.d) % 4294967296), .int .u32 ((s.e + v.e) % 4294967296), .int .u32 ((s.f + v.f) % 4294967296), .int .u32 ((s.g + v.g) % 4294967296), .int .u32 ((s.h + v.h) % 4294967296)]) ?_ rfl ⟨?_, ((((((((kept_drewN HK2.out q).setCell hh _).setCell hh _).setCell hh _).setCell hh _).setCell hh _).setCell hh _).setCell hh _).setCell hh _⟩
   ·exact results_cell_row (by rfl) _ _ (w.heap.size + 1 + 1) 88 #[.int .u32 ((s.a + v.a) % 4294967296), .int .u32 ((s.b + v.b) % 4294967296), .int .u32 ((s.c + v.c) % 4294967296), .int .u32 ((s.d + v.d) % 4294967296), .int .u32 ((s.e + v.e) % 4294967296), .int .u32 ((s.f + v.f) % 4294967296), .int .u32 ((s.g + v.g) % 4294967296), .int .u32 ((s.h + v.h) % 4294967296)] (0, 0) _ (by rfl) (set_block _ _ _ _ _ _ (set_block _ _ _ _ _ _ (set_block _ _ _ _ _ _ (set_block _ _ _ _ _ _ (set_block _ _ _ _ _ _ (set_block _ _ _ _ _ _ (set_block _ _ _ _ _ _ (set_block _ _ _ _ _ _ HD3.out _) _) _) _) _) _) _) _) Tryz.underlying88 rfl size48
   ·rw [HX.out]
    rfl
def Row (w : World) (g : Nat) (t : TypeId) (q : IntKind) (sz n : Nat) (f : Nat → Int) : Prop :=
 ∃ cur : Array Value, w.heap[g]? = some (.cells cur t (0, 0)) ∧ cur.size = sz ∧ ∀ j, j < n → cur[j]? = some (.int q (f j))
theorem Row.cell {w : World} {g n k sz : Nat} {t : TypeId} {q : IntKind} {f : Nat → Int} (h : Row w g t q sz n f) (hk : k < n) : w.cell? ⟨g, k, none⟩ = some (.int q (f k)) := by
 obtain ⟨cur, h0, h1, h2⟩ := h
 rw [cell_block _ _ _ _ _ _ h0]
 exact h2 k hk
theorem Row.there {w : World} {g n k sz : Nat} {t : TypeId} {q : IntKind} {f : Nat → Int} (h : Row w g t q sz n f) (hk : k < sz) : (∃ u, w.cell? ⟨g, k, none⟩ = some u) ∧ w.frozen? ⟨g, k, none⟩ = false := by
 obtain ⟨cur, h0, h1, h2⟩ := h
 refine ⟨⟨cur[k]'(by omega), ?_⟩, frozen_block _ _ _ _ _ h0⟩
 rw [cell_block _ _ _ _ _ _ h0]
 exact Array.getElem?_eq_getElem (by omega)
theorem Row.set {w : World} {g n k n' sz : Nat} {t : TypeId} {q : IntKind} {f f' : Nat → Int} (h : Row w g t q sz n f) (hk : k < sz) (x : Int) (hx : f' k = x) (hf : ∀ j, j < n' → j ≠ k → j < n ∧ f' j = f j) :
  Row (w.setCell ⟨g, k, none⟩ (.int q x)) g t q sz n' f' := by
 obtain ⟨cur, h0, h1, h2⟩ := h
 refine ⟨_, set_block _ _ _ _ _ _ h0 _, by simp [h1], fun j hj => ?_⟩
 rw [Array.getElem?_setIfInBounds]
 by_cases e : k = j
 ·subst e
  rw [if_pos rfl, if_pos (by omega), hx]
 ·obtain ⟨a, b⟩ := hf j hj (fun h => e h.symm)
  rw [if_neg e, h2 j a, b]
theorem Row.kept {S : Nat → Prop} {w w' : World} {g n sz : Nat} {t : TypeId} {q : IntKind} {f : Nat → Int} (h : Row w g t q sz n f) (hk : Kept S w w') (hs : ¬ S g) : Row w' g t q sz n f := by
 obtain ⟨cur, h0, h1, h2⟩ := h
 exact ⟨cur, (hk.block g (Array.getElem?_eq_some_iff.1 h0).1 hs).trans h0, h1, h2⟩
theorem Row.other {w : World} {g n sz : Nat} {t : TypeId} {q : IntKind} {f : Nat → Int} (h : Row w g t q sz n f) (p : Addr) (u : Value) (hp : g ≠ p.block) : Row (w.setCell p u) g t q sz n f := h.kept (s_kept_set w p u) hp
theorem row_list {q : IntKind} {cur : Array Value} {l : List Int} {n : Nat} (hs : cur.size = n) (hl : l.length = n) (h : ∀ j, j < n → cur[j]? = some (.int q (l.getD j 0))) : cur = (l.map (Value.int q)).toArray := by
 apply Array.ext_getElem?
 intro j
 by_cases hj : j < n
 ·rw [h j hj]
  simp [List.getD, List.getElem?_eq_getElem (show j < l.length by omega)]
 ·rw [Array.getElem?_eq_none (by omega), Array.getElem?_eq_none (by simp; omega)]
def zer (n : Nat) : Array Value := madeCells (Value.int .u8 0).cells n
theorem zer_size (n : Nat) : (zer n).size = n := size_madeCells _ n
theorem zer_at (n i : Nat) (h : i < n) : (zer n)[i]? = some (.int .u8 0) := by
 simp [zer, madeCells, h, Value.cells, Nat.mod_one]
theorem info5 : (Tryz.prog.info? 5).map (fun i => (i.zero, i.size, i.bytes)) = some (some (.int .u8 0), 1, 1) := by kernel_rfl
theorem make_any (W : World) (l : Nat) (h : l ≤ 140737488355328) : (Instr.makeSlice 22 (.int .i64 (l : Int)) (.int .i64 (l : Int))).run Tryz.prog W = .ok (.slice (some ⟨W.heap.size, 0, none⟩) l l) (W.alloc (.cells (zer l) 5)) := by
 obtain ⟨i0, hi, hz0, hz1, hz2⟩ := info_parts info5
 have := run_make (P := Tryz.prog) W 22 5 i0 (.int .u8 0) Tryz.underlying22 hi hz0 .i64 .i64 (l : Int) (l : Int) (by omega) (by omega) (by rw [hz2]; omega) (by omega)
 simpa [zer, hz1] using this
def padf (n i j : Nat) : Int := if j = 0 then 128 else if j < 1 + zeros n then 0 else if j < 1 + zeros n + i then lbyte n (j - 1 - zeros n) else 0
theorem pad_at (n j : Nat) (hj : j < 9 + zeros n) : (pad n).getD j 0 = padf n 8 j := by
 unfold pad padf
 cases j with
 | zero => rfl
 | succ j =>
  rw [if_neg (by omega)]
  show (List.replicate (zeros n) 0 ++ lenb n).getD j 0 = _
  by_cases h : j < zeros n
  ·rw [if_pos (by omega), List.getD, List.getElem?_append_left (by simpa using h)]
   simp [List.getElem?_replicate, h]
  ·rw [if_neg (by omega), if_pos (by omega), List.getD, List.getElem?_append_right (by simpa using h)]
   simp only [List.length_replicate]
   rw [show j + 1 - 1 - zeros n = j - zeros n by omega, lenb, List.getElem?_map, List.getElem?_range (by omega)]
   rfl
set_option maxRecDepth 100000 in
set_option maxHeartbeats 1000000 in
theorem filling_any (n : Nat) (hn : n < 2305843009213693952) (w : World) : Calls Tryz.prog 36 #[.int .i64 (n : Int)] w fun e w' => e = .returned (.slice (some ⟨w.heap.size, 0, none⟩) (9 + zeros n) (9 + zeros n)) ∧ w'.heap[w.heap.size]? = some (.cells ((pad n).map (Value.int .u8)).toArray 5 (0, 0)) ∧ Kept (fun _ => False) w w' := by
 obtain ⟨z, hz⟩ : ∃ z, zeros n = z := ⟨_, rfl⟩
 have hz64 : z < 64 := by rw [← hz]; unfold zeros; omega
 have E1 : (119 - (n : Int) % 64) % 64 = (z : Int) := by rw [← hz]; unfold zeros; omega
 have E2 : (119 - (n : Int)) % 64 = (z : Int) := by rw [← hz]; unfold zeros; omega
 have mk := make_any w (9 + z) (by omega)
 rw [show ((9 + z : Nat) : Int) = 1 + (z : Int) + 8 by omega] at mk
 have hc0 : (w.alloc (.cells (zer (9 + z)) 5)).cell? ⟨w.heap.size, 0, none⟩ = some (.int .u8 0) := (cell_block _ _ _ _ _ _ (alloc_new _ _ rfl)).trans (zer_at _ _ (by omega))
 have hf0 : (w.alloc (.cells (zer (9 + z)) 5)).frozen? ⟨w.heap.size, 0, none⟩ = false := frozen_block _ _ _ _ _ (alloc_new _ _ rfl)
 have R1 : Hid (Row (w.alloc (.cells ((zer (9 + z)).setIfInBounds 0 (.int .u8 128)) 5)) w.heap.size 5 .u8 (9 + z) (9 + z) (padf n 0)) := ⟨_, alloc_new _ _ rfl, by simp [zer_size], fun j hj => by
  rw [Array.getElem?_setIfInBounds]
  unfold padf
  by_cases e : 0 = j
  ·subst e
   rw [if_pos rfl, if_pos (by rw [zer_size]; omega), if_pos rfl]
  ·rw [if_neg e, if_neg (fun h => e h.symm), zer_at _ _ hj, hz]
   split
   ·rfl
   ·rw [if_neg (by omega)]⟩
 have K1 : Hid (Kept (fun _ => False) w (w.alloc (.cells ((zer (9 + z)).setIfInBounds 0 (.int .u8 128)) 5))) := (Kept.refl _ w).alloc _
 have HZ := hid_of hz
 clear hz
 go_enter Tryz.func36, Tryz.ntmps36
 go_wp2
 clear mk hc0 hf0
 go_loopw [16] (fun i wr => ∃ k : Nat, k ≤ 8 ∧ i = .int .i64 k ∧ Row wr w.heap.size 5 .u8 (9 + z) (9 + z) (padf n k) ∧ Kept (fun _ => False) w wr) (fun i _ => 8 - (intOf i).toNat)
 case atStart => exact ⟨0, by omega, rfl, R1.out, K1.out⟩
 case round =>
  clear R1 K1
  obtain ⟨k, hk, rfl, hR, hK⟩ := hrel
  by_cases hlt : k < 8
  ·obtain ⟨⟨u, hu⟩, hf⟩ := hR.there (k := 1 + z + k) (by omega)
   have HR : Hid (Row (wr.setCell ⟨w.heap.size, 1 + z + k, none⟩ (.int .u8 (8 * (n : Int) / 2 ^ (56 - 8 * k) % 256))) w.heap.size 5 .u8 (9 + z) (9 + z) (padf n (k + 1))) := hR.set (by omega) _ (by
     unfold padf
     rw [if_neg (by omega), HZ.out, if_neg (by omega), if_pos (by omega), show 1 + z + k - 1 - z = k by omega]
     rfl) (fun j hj hne => ⟨hj, by
     unfold padf
     rw [HZ.out]
     split
     ·rfl
     ·split
      ·rfl
      ·by_cases h : j < 1 + z + k
       ·rw [if_pos (by omega), if_pos h]
       ·rw [if_neg (by omega), if_neg h]⟩)
   have HK : Hid (Kept (fun _ => False) w (wr.setCell ⟨w.heap.size, 1 + z + k, none⟩ (.int .u8 (8 * (n : Int) / 2 ^ (56 - 8 * k) % 256)))) := hK.setCell (.inl (Nat.le_refl _)) _
   clear hR hK
   have hb0 : (k : Int) < 8 := by omega
   go_wp2
   go_roundw
   case rel => exact ⟨k + 1, by omega, by go_num, HR.out, HK.out⟩
   case measure => simp [intOf]; omega
  ·obtain rfl : k = 8 := by omega
   have HK := hid_of hK
   have HP : Hid (wr.heap[w.heap.size]? = some (.cells ((pad n).map (Value.int .u8)).toArray 5 (0, 0))) := by
    obtain ⟨cur, h0, h1, h2⟩ := hR
    obtain rfl := row_list (l := pad n) h1 (by rw [pad_length, HZ.out]) (fun j hj => by rw [h2 j hj, pad_at n j (by rw [HZ.out]; exact hj)])
    exact h0
   clear hR hK
   go_wp2
   go_ret
   exact ⟨by rw [HZ.out]; rfl, HP.out, HK.out⟩
theorem size28 : (Tryz.prog.info? 32).map (·.size) = some 32 := by kernel_rfl
set_option maxRecDepth 100000 in
set_option maxHeartbeats 1000000 in
theorem start_any (w : World) : Calls Tryz.prog 49 #[] w fun e w' => e = .returned s0.val ∧ Kept (fun _ => False) w w' := by
 go_enter Tryz.func49, Tryz.ntmps49
 go_wp2
 refine bodyPost_ret (v := s0.val) ?_ rfl ⟨rfl, (Kept.refl _ _).alloc _⟩
 exact results_cell_row (by rfl) _ _ w.heap.size 88 _ (0, 0) _ (by rfl) (alloc_new _ _ rfl) Tryz.underlying88 rfl size48
theorem dig_length (s : S8) : (dig s).length = 32 := by simp [dig]
set_option maxRecDepth 100000 in
set_option maxHeartbeats 1000000 in
theorem digest_any (s : S8) (w : World) : Calls Tryz.prog 37 #[.agg #[.int .u32 s.a, .int .u32 s.b, .int .u32 s.c, .int .u32 s.d, .int .u32 s.e, .int .u32 s.f, .int .u32 s.g, .int .u32 s.h]] w fun e w' => e = .returned (.agg ((dig s).map (Value.int .u8)).toArray) ∧ Kept (fun _ => False) w w' := by
 go_enter Tryz.func37, Tryz.ntmps37
 go_wp2
 go_loopw [5] (fun i wr => ∃ k : Nat, k ≤ 32 ∧ i = .int .i64 k ∧ Row wr w.heap.size 88 .u32 8 8 (fun j => s.list.getD j 0) ∧ Row wr (w.heap.size + 1) 32 .u8 32 0 (fun _ => 0) ∧ Row wr (w.heap.size + 1 + 1) 32 .u8 32 k (fun j => (dig s).getD j 0) ∧ Kept (fun _ => False) w wr) (fun i _ => 32 - (intOf i).toNat)
 case atStart =>
  refine ⟨0, by omega, rfl, ⟨_, alloc_old (alloc_old (alloc_new _ _ rfl)), rfl, fun j hj => ?_⟩, ⟨_, alloc_old (alloc_new _ _ (by simp)), rfl, fun j hj => absurd hj (by omega)⟩, ⟨_, alloc_new _ _ (by simp), rfl, fun j hj => absurd hj (by omega)⟩, (((Kept.refl _ _).alloc _).alloc _).alloc _⟩
  match j, hj with
  | 0, _ => rfl
  | 1, _ => rfl
  | 2, _ => rfl
  | 3, _ => rfl
  | 4, _ => rfl
  | 5, _ => rfl
  | 6, _ => rfl
  | 7, _ => rfl
 case round =>
  obtain ⟨k, hk, rfl, hS, hO, hD, hK⟩ := hrel
  by_cases hlt : k < 32
  ·have hc := hS.cell (k := k / 4) (by omega)
   obtain ⟨⟨u, hu⟩, hf⟩ := hD.there (k := k) hlt
   have hdg : (dig s).getD k 0 = s.list.getD (k / 4) 0 / 2 ^ (24 - k % 4 * 8) % 256 := by simp [dig, List.getD, hlt, dbyte]
   generalize s.list.getD (k / 4) 0 = v at *
   have H2 : Hid (Row (wr.setCell ⟨w.heap.size + 1 + 1, k, none⟩ (.int .u8 (v / 2 ^ (24 - k % 4 * 8) % 256))) (w.heap.size + 1 + 1) 32 .u8 32 (k + 1) (fun j => (dig s).getD j 0)) := hD.set hlt _ hdg (fun j hj hne => ⟨by omega, rfl⟩)
   have H0 : Hid (∀ x, Row (wr.setCell ⟨w.heap.size + 1 + 1, k, none⟩ x) w.heap.size 88 .u32 8 8 (fun j => s.list.getD j 0)) := fun x => hS.other _ _ (by show _ ≠ w.heap.size + 1 + 1; omega)
   have H1 : Hid (∀ x, Row (wr.setCell ⟨w.heap.size + 1 + 1, k, none⟩ x) (w.heap.size + 1) 32 .u8 32 0 (fun _ => 0)) := fun x => hO.other _ _ (by show _ ≠ w.heap.size + 1 + 1; omega)
   have HK : Hid (∀ x, Kept (fun _ => False) w (wr.setCell ⟨w.heap.size + 1 + 1, k, none⟩ x)) := fun x => hK.setCell (.inl (by show _ ≤ w.heap.size + 1 + 1; omega)) _
   clear hS hO hD hK hdg
   have hkI : (k : Int) < 32 := by omega
   go_wp2
   go_roundw
   case rel => exact ⟨k + 1, by omega, by go_num, H0.out _, H1.out _, H2.out, HK.out _⟩
   case measure => simp [intOf]; omega
  ·obtain rfl : k = 32 := by omega
   obtain ⟨cur, hB, hsz, hcur⟩ := hD
   obtain rfl := row_list hsz (dig_length s) hcur
   obtain ⟨old, hO, hosz, _⟩ := hO
   have h1 := oneCells .u8 (dig s)
   have hs28 : (Tryz.prog.info? 32).map (·.size) = some ((dig s).map (Value.int .u8)).toArray.size := by simp [size28, dig_length]
   have hos : old.size = ((dig s).map (Value.int .u8)).toArray.size := by simp [hosz, dig_length]
   have HKR : Hid (Kept (fun _ => False) w (wr.setRow (w.heap.size + 1) ((dig s).map (Value.int .u8)).toArray)) := hK.setRow (.inl (by omega)) _
   have HRR := hid_of (setRow_heap wr (w.heap.size + 1) old ((dig s).map (Value.int .u8)).toArray 32 (0, 0) hO)
   clear hcur hsz hosz hK hS
   generalize hcs : ((dig s).map (Value.int .u8)).toArray = cs at *
   have HC := hid_of hcs
   clear hcs
   go_wp2_with (first | refine wpList_load_row rfl 32 _ rfl (w.heap.size + 1 + 1) rfl 32 cs (0, 0) _ hB Tryz.underlying32 rfl hs28 ?_ | refine wpList_store_row rfl 32 _ _ rfl (w.heap.size + 1) cs rfl rfl 32 old hO hs28 hos h1 ?_)
   refine bodyPost_ret (v := .agg cs) ?_ rfl ⟨by rw [HC.out], HKR.out⟩
   exact results_cell_row (by rfl) _ _ (w.heap.size + 1) 32 cs (0, 0) _ (by rfl) HRR.out Tryz.underlying32 rfl hs28
end Go.Proofs.YtcahibbfejomcaaGreatDoor

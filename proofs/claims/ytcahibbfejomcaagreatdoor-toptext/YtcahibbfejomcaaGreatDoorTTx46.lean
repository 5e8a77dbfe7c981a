import Derived.Test.YtcahibbfejomcaaGreatDoorTTx45
import Derived.WalkKit
import Derived.ProofKit
import Derived.Maps.AppendAt
import Derived.Deep.QuietTactic
import Derived.BigQuiet
import Derived.WalkSmall
import Derived.Laws.Rows
import Derived.Deep.MidRow
import Derived.Deep.WholeRow
import Derived.Deep.RegionHeld3
import Derived.Laws.StructEq
namespace Go.Proofs.YtcahibbfejomcaaGreatDoor
open Go.RowKit
set_option linter.unusedVariables false
set_option linter.unusedSimpArgs false
theorem alloc_old {w : World} {k : Nat} {o x : Obj} (h : w.heap[k]? = some x) : (w.alloc o).heap[k]? = some x := by
 show (w.heap.push o)[k]? = some x
 rw [Array.getElem?_push, if_neg (Nat.ne_of_lt (Array.getElem?_eq_some_iff.1 h).1)]
 exact h
theorem alloc_new (w : World) (o : Obj) {k : Nat} (hk : k = w.heap.size) : (w.alloc o).heap[k]? = some o := by
 subst hk
 show (w.heap.push o)[w.heap.size]? = some o
 simp
theorem cell_far (w : World) (g o o' : Nat) (u : Value) (h : o ≠ o') : (w.setCell ⟨g, o, none⟩ u).cell? ⟨g, o', none⟩ = w.cell? ⟨g, o', none⟩ := by
 apply World.cell?_setCell_other
 intro e
 exact h (congrArg Addr.off e)
def Words (w : World) (g n : Nat) (f : Nat → Int) : Prop :=
 ∃ cur : Array Value, w.heap[g]? = some (.cells cur 119 (0, 0)) ∧ cur.size = 64 ∧ ∀ j, j < n → cur[j]? = some (.int .u32 (f j))
theorem Words.cell {w : World} {g n k : Nat} {f : Nat → Int} (h : Words w g n f) (hk : k < n) : w.cell? ⟨g, k, none⟩ = some (.int .u32 (f k)) := by
 obtain ⟨cur, h0, h1, h2⟩ := h
 rw [cell_block _ _ _ _ _ _ h0]
 exact h2 k hk
theorem Words.there {w : World} {g n k : Nat} {f : Nat → Int} (h : Words w g n f) (hk : k < 64) : (∃ u, w.cell? ⟨g, k, none⟩ = some u) ∧ w.frozen? ⟨g, k, none⟩ = false := by
 obtain ⟨cur, h0, h1, h2⟩ := h
 refine ⟨⟨cur[k]'(by omega), ?_⟩, frozen_block _ _ _ _ _ h0⟩
 rw [cell_block _ _ _ _ _ _ h0]
 exact Array.getElem?_eq_getElem (by omega)
theorem Words.set {w : World} {g n k n' : Nat} {f f' : Nat → Int} (h : Words w g n f) (hk : k < 64) (x : Int) (hx : f' k = x) (hf : ∀ j, j < n' → j ≠ k → j < n ∧ f' j = f j) :
  Words (w.setCell ⟨g, k, none⟩ (.int .u32 x)) g n' f' := by
 obtain ⟨cur, h0, h1, h2⟩ := h
 refine ⟨_, set_block _ _ _ _ _ _ h0 _, by simp [h1], fun j hj => ?_⟩
 rw [Array.getElem?_setIfInBounds]
 by_cases e : k = j
 ·subst e
  rw [if_pos rfl, if_pos (by omega), hx]
 ·obtain ⟨a, b⟩ := hf j hj (fun h => e h.symm)
  rw [if_neg e, h2 j a, b]
theorem Words.kept {S : Nat → Prop} {w w' : World} {g n : Nat} {f : Nat → Int} (h : Words w g n f) (hk : Kept S w w') (hs : ¬ S g) : Words w' g n f := by
 obtain ⟨cur, h0, h1, h2⟩ := h
 exact ⟨cur, (hk.block g (Array.getElem?_eq_some_iff.1 h0).1 hs).trans h0, h1, h2⟩
theorem run_index_agg {P : Program} (w : World) (t e : TypeId) (n : Nat) (cs : Array Value) (k : IntKind) (i : Nat) (v : Value) (d : TypeDesc) (h : P.underlying t = some (.array n e)) (hd : P.underlying e = some d) (hr : d.isRow = false)
  (hi : (P.info? e).map (·.size) = some 1) (hn : i < n) (hv : cs[i]? = some v) : (Instr.index t (.agg cs) (.int k (i : Int))).run P w = .ok v w := by
 have hagg : (isAgg e).run P w = .ok false w := by
  unfold isAgg
  rw [Sem.run_bind, run_underlying hd w]
  cases d <;> simp_all
 cases hq : P.info? e with
 | none => simp [hq] at hi
 | some q =>
  have hs : q.size = 1 := by simpa [hq] using hi
  have h1 : (0 : Int) ≤ (i : Int) ∧ (i : Int) < (n : Int) := by omega
  simp [Instr.index, asIntOf, run_underlying h, part, hagg, sizeOf, typeInfo, hq, hs, hv, hn]
theorem s_kept_set (w : World) (p : Addr) (u : Value) : Kept (fun k => k = p.block) w (w.setCell p u) :=
 ⟨rfl, rfl, rfl, by simp [World.setCell], fun k _ hn => Below.heap_setCell _ _ _ _ hn⟩
theorem Words.other {w : World} {g n : Nat} {f : Nat → Int} (h : Words w g n f) (p : Addr) (u : Value) (hp : g ≠ p.block) : Words (w.setCell p u) g n f := h.kept (s_kept_set w p u) hp
theorem Kept.setRow {S : Nat → Prop} {a w : World} (h : Kept S a w) {g : Nat} (hg : a.heap.size ≤ g ∨ S g) (cs : Array Value) : Kept S a (w.setRow g cs) :=
 h.step (T := fun k => k = g) ⟨rfl, rfl, rfl, by simp, fun k _ hn => setRow_other _ _ _ _ hn⟩ (fun i hi e => by subst e; rcases hg with hp | hp; omega; exact hp)
theorem oneCells (k : IntKind) (l : List Int) : (l.map (Value.int k)).toArray.all (·.oneCell') = true := by
 rw [Array.all_eq_true_iff_forall_mem]
 intro v hv
 simp at hv
 obtain ⟨a, _, rfl⟩ := hv
 rfl
theorem words_list {cur : Array Value} {l : List Int} {n : Nat} (hs : cur.size = n) (hl : l.length = n) (h : ∀ j, j < n → cur[j]? = some (.int .u32 (l.getD j 0))) : cur = (l.map (Value.int .u32)).toArray := by
 apply Array.ext_getElem?
 intro j
 by_cases hj : j < n
 ·rw [h j hj]
  simp [List.getD, List.getElem?_eq_getElem (show j < l.length by omega)]
 ·rw [Array.getElem?_eq_none (by omega), Array.getElem?_eq_none (by simp; omega)]
theorem rot_s : ∀ n : Nat, n < 32 → 0 < n → bits .and .u64 (IntKind.u64.wrap (-(n : Int))) 31 = 32 - (n : Int) := by decide
set_option maxRecDepth 100000 in
set_option maxHeartbeats 1000000 in
theorem ror_any (x : Int) (n : Nat) (h0 : 0 < n) (h1 : n < 32) (w : World) :
  Calls Tryz.prog 51 #[.int .u32 x, .int .i64 (n : Int)] w fun e w' => e = .returned (.int .u32 (ror x n)) ∧ w' = w := by
 have hs := rot_s n h1 h0
 go_enter Tryz.func51, Tryz.ntmps51
 go_wp2
 go_ret
 refine ⟨?_, rfl⟩
 show Ending.returned (Value.int .u32 (bits .or .u32 (x * 2 ^ (32 - n) % 4294967296) (x / 2 ^ (32 - (32 - n))))) = _
 rw [show 32 - (32 - n) = n by omega]
 rfl
theorem ror_int (x i : Int) (h0 : 0 < i) (h1 : i < 32) (w : World) :
  Calls Tryz.prog 51 #[.int .u32 x, .int .i64 i] w fun e w' => e = .returned (.int .u32 (ror x i.toNat)) ∧ w' = w := by
 obtain ⟨n, rfl⟩ := Int.eq_ofNat_of_zero_le (show 0 ≤ i by omega)
 exact ror_any x n (by omega) (by omega) w
theorem part_at (w : World) (cs : Array Value) (i : Nat) (v : Value) (h : cs[i]? = some v) : (part 5 cs (i * 1)).run Tryz.prog w = .ok v w := by
 simp [part, Tryz.isAgg5, h]
theorem run_forIn_all {P : Program} {w : World} (f : Nat → Option Bool × Unit → Sem (ForInStep (Option Bool × Unit))) (q : Nat → Bool) :
  ∀ l : List Nat, (∀ i ∈ l, ∀ s, (f i s).run P w = .ok (if q i then .yield (none, ()) else .done (some false, ())) w) → (forIn l (none, ()) f).run P w = .ok (if l.all q then (none, ()) else (some false, ())) w
 | [], _ => by simp [Sem.run_pure]
 | i :: l, hf => by
  simp only [List.forIn_cons, Sem.run_bind, hf i (List.mem_cons_self ..), Result.andThen_ok, List.all_cons]
  by_cases hq : q i = true
  ·simp [hq, run_forIn_all f q l (fun j hj => hf j (List.mem_cons_of_mem _ hj))]
  ·simp [hq, Sem.run_pure]
theorem all_eq (n : Nat) (xs ys : List Int) (hx : xs.length = n) (hy : ys.length = n) : ((List.range' 0 n 1).all fun i => xs.getD i 0 == ys.getD i 0) = decide (xs = ys) := by
 rw [Bool.eq_iff_iff, List.all_eq_true, decide_eq_true_iff]
 constructor
 ·intro h
  apply List.ext_getElem (by omega)
  intro i h1 h2
  have := h i (by simp [List.mem_range'_1]; omega)
  simpa [List.getD, List.getElem?_eq_getElem h1, List.getElem?_eq_getElem h2] using this
 ·rintro rfl i _
  simp
theorem run_eq_arr (w : World) (d : Nat) (t : TypeId) (n : Nat) (xs ys : List Int) (ht : Tryz.prog.underlying t = some (.array n 5)) (hx : xs.length = n) (hy : ys.length = n) :
  (Op.equalIn (d + 2) t (.agg (xs.map (Value.int .u8)).toArray) (.agg (ys.map (Value.int .u8)).toArray)).run Tryz.prog w = .ok (decide (xs = ys)) w := by
 have hb : ∀ i, i < n → (part 5 (xs.map (Value.int .u8)).toArray (i * 1)).run Tryz.prog w = .ok (.int .u8 (xs.getD i 0)) w := fun i hi => part_at w _ i _ (by simp [List.getD, List.getElem?_eq_getElem (show i < xs.length by omega)])
 have hc : ∀ i, i < n → (part 5 (ys.map (Value.int .u8)).toArray (i * 1)).run Tryz.prog w = .ok (.int .u8 (ys.getD i 0)) w := fun i hi => part_at w _ i _ (by simp [List.getD, List.getElem?_eq_getElem (show i < ys.length by omega)])
 unfold Op.equalIn
 simp only [Sem.run_bind, run_underlying ht, Result.andThen_ok, Tryz.sizeOf5, Std.Legacy.Range.forIn_eq_forIn_range']
 rw [run_forIn_all _ (fun i => xs.getD i 0 == ys.getD i 0) (List.range' 0 [:n].size) (fun i hi s => ?_)]
 ·rw [show [:n].size = n by simp [Std.Legacy.Range.size], all_eq n xs ys hx hy]
  by_cases h : xs = ys
  ·simp [h, Sem.run_pure]
  ·simp [h, Sem.run_pure]
 ·have hn : i < n := by
   simp [Std.Legacy.Range.size, List.mem_range'_1] at hi
   exact hi
  simp only [Sem.run_bind, hb i hn, hc i hn, Result.andThen_ok, run_equalIn_int w d 5 .u8 .u8 _ _ Tryz.underlying5]
  generalize xs.getD i 0 = x
  generalize ys.getD i 0 = y
  by_cases h : x = y
  ·simp [h, Sem.run_pure]
  ·simp [h, Sem.run_pure]
theorem size49 : (Tryz.prog.info? 89).map (·.size) = some 64 := by kernel_rfl
theorem size5 : (Tryz.prog.info? 5).map (·.size) = some 1 := by kernel_rfl
theorem size79 : (Tryz.prog.info? 119).map (·.size) = some 64 := by kernel_rfl
theorem part_step (bs : List Int) (k : Nat) : up (partw bs (k / 4) (min 4 (k - 4 * (k / 4)))) (bs.getD k 0) = partw bs (k / 4) (min 4 (k + 1 - 4 * (k / 4))) := by
 have e : min 4 (k + 1 - 4 * (k / 4)) = min 4 (k - 4 * (k / 4)) + 1 := by omega
 rw [e, partw]
 congr 2
 omega
theorem next_step (bs : List Int) (k : Nat) (hk : k < 48) (j : Nat) (hj : j < 16 + (k + 1)) (hne : j ≠ k + 16) : j < 16 + k ∧ (grown (first bs) (k + 1)).getD j 0 = (grown (first bs) k).getD j 0 := by
 have hl : (grown (first bs) k).length = 16 + k := by rw [grown_length, first_length]
 refine ⟨by omega, ?_⟩
 rw [grown, List.getD, List.getD, List.getElem?_append_left (by omega)]
theorem next_at (bs : List Int) (k : Nat) : (grown (first bs) (k + 1)).getD (k + 16) 0 = nextw (grown (first bs) k) k := by
 have hl : (grown (first bs) k).length = 16 + k := by rw [grown_length, first_length]
 rw [grown, List.getD, List.getElem?_append_right (by omega), hl, show k + 16 - (16 + k) = 0 by omega]
 rfl
set_option maxRecDepth 100000 in
set_option maxHeartbeats 1000000 in
theorem wide_any (bs : List Int) (hl : bs.length = 64) (hr : ∀ x ∈ bs, 0 ≤ x ∧ x < 256) (w : World) :
  Calls Tryz.prog 50 #[.agg (bs.map (Value.int .u8)).toArray] w fun e w' => e = .returned (.agg ((wide bs).map (Value.int .u32)).toArray) ∧ Kept (fun _ => False) w w' := by
 have HR := hid_of hr
 clear hr
 have hs49 : (Tryz.prog.info? 89).map (·.size) = some (bs.map (Value.int .u8)).toArray.size := by simp [size49, hl]
 go_enter Tryz.func50, Tryz.ntmps50
 go_wp2_with (refine wpList_load_row rfl 89 _ rfl w.heap.size rfl 89 (bs.map (Value.int .u8)).toArray (0, 0) _ (alloc_old (alloc_old (alloc_new _ _ rfl))) Tryz.underlying89 rfl hs49 ?_)
 go_loopw [10] (fun i wr => ∃ k : Nat, k ≤ 64 ∧ i = .int .i64 k ∧ Words wr (w.heap.size + 1 + 1) 16 (fun j => partw bs j (min 4 (k - 4 * j))) ∧ Words wr (w.heap.size + 1) 0 (fun _ => 0) ∧ Kept (fun _ => False) w wr) (fun i _ => 64 - (intOf i).toNat)
 case atStart =>
  refine ⟨0, by omega, rfl, ⟨_, alloc_new _ _ (by simp), rfl, fun j hj => ?_⟩, ⟨_, alloc_old (alloc_new _ _ (by simp)), rfl, fun j hj => absurd hj (by omega)⟩, (((Kept.refl _ _).alloc _).alloc _).alloc _⟩
  show _ = some (Value.int .u32 (partw bs j (min 4 (0 - 4 * j))))
  rw [show min 4 (0 - 4 * j) = 0 by omega]
  show ((List.replicate 64 (Value.int .u32 0)).toArray)[j]? = some (Value.int .u32 0)
  rw [List.getElem?_toArray, List.getElem?_replicate, if_pos (by omega)]
 case round =>
  obtain ⟨k, hk, rfl, hW, hR, hK⟩ := hrel
  by_cases hlt : k < 64
  ·have hc := hW.cell (k := k / 4) (by omega)
   obtain ⟨_, hfz⟩ := hW.there (k := k / 4) (by omega)
   have hst := part_step bs k
   have hcr : 0 ≤ bs.getD k 0 ∧ bs.getD k 0 < 256 := HR.out _ (by rw [List.getD, List.getElem?_eq_getElem (by omega)]; simp)
   have hix : ∀ w, (Instr.index 89 (.agg (bs.map (Value.int .u8)).toArray) (.int .i64 (k : Int))).run Tryz.prog w = .ok (.int .u8 (bs.getD k 0)) w := fun w => run_index_agg w 89 5 64 _ _ k _ _ Tryz.underlying89 Tryz.underlying5 rfl size5 hlt (by simp [List.getD, hlt, hl])
   generalize bs.getD k 0 = c at *
   generalize hv : partw bs (k / 4) (min 4 (k - 4 * (k / 4))) = v at *
   have HS : Hid (Words (wr.setCell ⟨w.heap.size + 1 + 1, k / 4, none⟩ (.int .u32 (bits .or .u32 (v * 256 % 4294967296) (c % 4294967296)))) (w.heap.size + 1 + 1) 16 (fun j => partw bs j (min 4 (k + 1 - 4 * j)))) := hW.set (by omega) _ (by
     rw [← hst, up, Int.emod_eq_of_lt (a := c) hcr.1 (by omega)]) (fun j hj hne => ⟨hj, by
     rw [show min 4 (k + 1 - 4 * j) = min 4 (k - 4 * j) by omega]⟩)
   have HT : Hid (Words (wr.setCell ⟨w.heap.size + 1 + 1, k / 4, none⟩ (.int .u32 (bits .or .u32 (v * 256 % 4294967296) (c % 4294967296)))) (w.heap.size + 1) 0 (fun _ => 0)) := hR.other _ _ (by show _ ≠ w.heap.size + 1 + 1; omega)
   have HK := hid_of hK
   have hkI : (k : Int) < 64 := by omega
   clear hW hK hst hcr hv hR
   go_wp2
   go_roundw
   case rel => exact ⟨k + 1, by omega, by go_num, HS.out, HT.out, HK.out.setCell (.inl (by show _ ≤ _ + 1 + 1; omega)) _⟩
   case measure => simp [intOf]; omega
  ·obtain rfl : k = 64 := by omega
   have HW : Hid (Words wr (w.heap.size + 1 + 1) 16 fun j => (first bs).getD j 0) := by
    obtain ⟨cur, h0, h1, h2⟩ := hW
    refine ⟨cur, h0, h1, fun j hj => ?_⟩
    rw [h2 j hj]
    show some (Value.int .u32 (partw bs j (min 4 (64 - 4 * j)))) = some (Value.int .u32 ((first bs).getD j 0))
    rw [show min 4 (64 - 4 * j) = 4 by omega, ← word_part]
    simp [first, List.getD, hj]
   have HK := hid_of hK
   have HT := hid_of hR
   clear hW hK hR
   go_wp2
   generalize Value.int IntKind.i64 ((64 : Nat) : Int) = d10
   go_loopw [26] (fun i wr => ∃ k : Nat, k ≤ 48 ∧ i = .int .i64 k ∧ Words wr (w.heap.size + 1 + 1) (16 + k) (fun j => (grown (first bs) k).getD j 0) ∧ Words wr (w.heap.size + 1) 0 (fun _ => 0) ∧ Kept (fun _ => False) w wr) (fun i _ => 48 - (intOf i).toNat)
   case atStart => exact ⟨0, by omega, rfl, HW.out, HT.out, HK.out⟩
   case round =>
    clear HW HK HT
    obtain ⟨k, hk, rfl, hW, hR, hK⟩ := hrel
    by_cases hlt : k < 48
    ·have hc0 := hW.cell (k := k) (by omega)
     have hc1 := hW.cell (k := k + 1) (by omega)
     have hc9 := hW.cell (k := k + 9) (by omega)
     have hc14 := hW.cell (k := k + 14) (by omega)
     have hn := next_at bs k
     rw [nextw] at hn
     generalize (grown (first bs) k).getD k 0 = v0 at *
     generalize (grown (first bs) k).getD (k + 1) 0 = v1 at *
     generalize (grown (first bs) k).getD (k + 9) 0 = v9 at *
     generalize (grown (first bs) k).getD (k + 14) 0 = v14 at *
     have hkI : (k : Int) < 48 := by omega
     obtain ⟨⟨u16', hu16⟩, hf16⟩ := hW.there (k := k + 16) (by omega)
     have HS : Hid (∀ q, Words ((wr.drewN q).setCell ⟨w.heap.size + 1 + 1, k + 16, none⟩ (.int .u32 (add (add (add v0 (sg0 v1)) v9) (sg1 v14)))) (w.heap.size + 1 + 1) (16 + (k + 1)) (fun j => (grown (first bs) (k + 1)).getD j 0)) := fun q =>
      (show Words (wr.drewN q) _ _ _ from hW).set (by omega) _ hn (fun j hj hne => next_step bs k hlt j hj hne)
     have HT : Hid (∀ q x, Words ((wr.drewN q).setCell ⟨w.heap.size + 1 + 1, k + 16, none⟩ x) (w.heap.size + 1) 0 (fun _ => 0)) := fun q x => (show Words (wr.drewN q) _ _ _ from hR).other _ _ (by show _ ≠ w.heap.size + 1 + 1; omega)
     have HK : Hid (∀ q x, Kept (fun _ => False) w ((wr.drewN q).setCell ⟨w.heap.size + 1 + 1, k + 16, none⟩ x)) := fun q x => (kept_drewN hK q).setCell (.inl (by show _ ≤ _ + 1 + 1; omega)) _
     clear hW hK hn hR
     go_wp2
     have hb0 : (0 : Int) ≤ (k : Int) := by omega
     have hb1 : (k : Int) < 64 := by omega
     have hb2 : (0 : Int) ≤ (k : Int) + 9 := by omega
     have hb3 : (k : Int) + 9 < 64 := by omega
     have hb4 : (0 : Int) ≤ (k : Int) + 16 := by omega
     have hb5 : (k : Int) + 16 < 64 := by omega
     go_quiet (fail)
     go_wp2
     have hw9 : IntKind.i64.wrap ((k : Int) + 9) = (k : Int) + 9 := by simp [IntKind.wrap, IntKind.bits, IntKind.signed]; omega
     have hw16 : IntKind.i64.wrap ((k : Int) + 16) = (k : Int) + 16 := by simp [IntKind.wrap, IntKind.bits, IntKind.signed]; omega
     have ht9 : ((k : Int) + 9).toNat = k + 9 := by omega
     have ht16 : ((k : Int) + 16).toNat = k + 16 := by omega
     go_region_held3 (fun w' => w'.cell? ⟨w.heap.size + 1 + 1, k, none⟩ = some (.int .u32 v0) ∧ w'.cell? ⟨w.heap.size + 1 + 1, k + 9, none⟩ = some (.int .u32 v9)) (first | go_keep | exact ⟨(cell_far _ _ _ _ _ (by omega)).trans hc0, (cell_far _ _ _ _ _ (by omega)).trans hc9⟩)
      (first | (go_at_call 51; refine (ror_int _ _ (by decide) (by decide) _).mono ?_; rintro e w' ⟨rfl, rfl⟩))
     go_wp2
     go_roundw
     case rel =>
      exact ⟨k + 1, by omega, by go_num, HS.out _, HT.out _ _, HK.out _ _⟩
     case measure => simp [intOf]; omega
    ·obtain rfl : k = 48 := by omega
     obtain ⟨cur, hB, hsz, hcur⟩ := hW
     obtain rfl := words_list hsz (wide_length bs) hcur
     obtain ⟨old, hO, hosz, _⟩ := hR
     have h1 := oneCells .u32 (wide bs)
     have hs79 : (Tryz.prog.info? 119).map (·.size) = some ((wide bs).map (Value.int .u32)).toArray.size := by simp [size79, wide_length]
     have hos : old.size = ((wide bs).map (Value.int .u32)).toArray.size := by simp [hosz, wide_length]
     have HKR : Hid (Kept (fun _ => False) w (wr.setRow (w.heap.size + 1) ((wide bs).map (Value.int .u32)).toArray)) := hK.setRow (.inl (by omega)) _
     have HRR := hid_of (setRow_heap wr (w.heap.size + 1) old ((wide bs).map (Value.int .u32)).toArray 119 (0, 0) hO)
     clear hcur hsz hosz hK
     generalize hcs : ((wide bs).map (Value.int .u32)).toArray = cs at *
     have HC := hid_of hcs
     clear hcs
     go_wp2_with (first | refine wpList_load_row rfl 119 _ rfl (w.heap.size + 1 + 1) rfl 119 cs (0, 0) _ hB Tryz.underlying119 rfl hs79 ?_ | refine wpList_store_row rfl 119 _ _ rfl (w.heap.size + 1) cs rfl rfl 119 old hO hs79 hos h1 ?_)
     refine bodyPost_ret (v := .agg cs) ?_ rfl ⟨by rw [HC.out], HKR.out⟩
     exact results_cell_row (by rfl) _ _ (w.heap.size + 1) 119 cs (0, 0) _ (by rfl) HRR.out Tryz.underlying119 rfl hs79
end Go.Proofs.YtcahibbfejomcaaGreatDoor

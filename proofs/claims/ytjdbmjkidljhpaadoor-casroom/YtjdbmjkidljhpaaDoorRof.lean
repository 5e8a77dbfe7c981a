/-
  Of of the reference by contract.
-/
import Derived.Test.YtjdbmjkidljhpaaDoorBlock
import Derived.Test.YtjdbmjkidljhpaaDoorFill
import Derived.Test.YtjdbmjkidljhpaaDoorRcutA
namespace Go.Proofs.YtjdbmjkidljhpaaDoor
open Go.RowKit
set_option linter.unusedVariables false
set_option maxRecDepth 100000
set_option linter.unusedSimpArgs false

section
variable {P : Program} {w : World} {ops : Array Oper} {o : Oper} {a : Act} {K : Act → World → Prop} {Q : Exit → Act → World → Prop} {E : Prop}
theorem step_load_row (hgd : o.guard = none) (ty : TypeId) (x : Operand) (ho : o.op = .load ty x)
    (g : Nat) (hx : a.eval x = .pointer (some ⟨g, 0, none⟩)) (t : TypeId) (cs : Array Value) (fr : Nat × Nat) (d : TypeDesc) (hg : w.heap[g]? = some (.cells cs t fr))
    (hu : P.underlying ty = some d) (hd : (match d with | .struct _ | .array _ _ => true | _ => false) = true) (hi : (P.info? ty).map (·.size) = some cs.size)
    (h : K (a.put o.dst (.agg cs)) w) : if Region.wanted o (yielded ops a.tmps) = true then Oper.wp P o a w K Q else E := by
  have hw : Region.wanted o (yielded ops a.tmps) = true := by simp [Region.wanted, hgd]
  rw [if_pos hw]
  exact wp_load_row ty x ho g hx t cs fr d hg hu hd hi h
theorem step_store_row (hgd : o.guard = none) (ty : TypeId) (x y : Operand) (ho : o.op = .store ty x y)
    (g : Nat) (cells : Array Value) (hx : a.eval x = .pointer (some ⟨g, 0, none⟩)) (hy : a.eval y = .agg cells)
    (t : TypeId) (old : Array Value) (hg : w.heap[g]? = some (.cells old t (0, 0))) (hi : (P.info? ty).map (·.size) = some cells.size)
    (hold : old.size = cells.size) (h1 : cells.all (·.oneCell') = true)
    (h : K (a.put o.dst undef) (w.setRow g cells)) : if Region.wanted o (yielded ops a.tmps) = true then Oper.wp P o a w K Q else E := by
  have hw : Region.wanted o (yielded ops a.tmps) = true := by simp [Region.wanted, hgd]
  rw [if_pos hw]
  exact wp_store_row ty x y ho g cells hx hy t old hg hi hold h1 h
end
theorem take_at (l : List Int) (k i : Nat) (hi : i < 64) : ((l.drop (64 * k)).take 64).getD i 0 = l.getD (64 * k + i) 0 := by
  simp [List.getD, List.getElem?_take, hi, List.getElem?_drop]
def S8.arr (s : S8) : Array Value := #[.int .u32 s.a, .int .u32 s.b, .int .u32 s.c, .int .u32 s.d, .int .u32 s.e, .int .u32 s.f, .int .u32 s.g, .int .u32 s.h]
theorem arr_val (s : S8) : s.val = .agg s.arr := rfl
theorem arr_one (s : S8) : s.arr.all (·.oneCell') = true := oneCells .u32 s.list
theorem arr_size (s : S8) : (Tryd.prog.info? 87).map (·.size) = some s.arr.size := size47

set_option maxRecDepth 100000 in
set_option maxHeartbeats 4000000 in
theorem rof_any (bv : Value) (xs : List Int) (w : World) (hx : BIn w bv xs) (hr : ∀ x ∈ xs, 0 ≤ x ∧ x < 256) (hn : xs.length ≤ 4294967296) :
    Calls Tryd.prog 41 #[bv] w fun e w' => e = .returned (.agg ((sha xs).map (Value.int .u8)).toArray) ∧ Kept (fun _ => False) w w' := by
  obtain ⟨full, hfull⟩ : ∃ l, l = xs ++ pad xs.length := ⟨_, rfl⟩
  obtain ⟨m, hm⟩ : ∃ m, full.length = 64 * m := ⟨full.length / 64, by have := full_length xs.length; rw [hfull, List.length_append]; omega⟩
  have hmb : m ≤ 67108866 := by
    have h1 : full.length = xs.length + (9 + zeros xs.length) := by rw [hfull, List.length_append, pad_length]
    have := zeros_lt xs.length
    omega
  obtain ⟨st, HST0, HSTN, HSHA⟩ : ∃ st : Nat → S8, Hid (st 0 = s0) ∧ Hid (∀ k, st (k + 1) = turn (st k) ((full.drop (64 * k)).take 64)) ∧ Hid (sha xs = dig (st m)) :=
    ⟨blk full, rfl, fun k => rfl, by
      show sha xs = _
      rw [sha, hfull]
      congr 2
      rw [hfull, List.length_append] at hm
      omega⟩
  have HRF : Hid (∀ x ∈ full, 0 ≤ x ∧ x < 256) := fun x hx => by
    rw [hfull, List.mem_append] at hx
    rcases hx with h | h
    · exact hr x h
    · exact pad_range _ x h
  obtain ⟨ao, c, rfl⟩ : ∃ ao c, bv = .slice ao xs.length c := by
    obtain ⟨ao, c, h, _⟩ := hx
    exact ⟨ao, c, h⟩
  have HX := hid_of hx
  have hz31 : (Tryd.prog.info? 57).map (·.size) = some (zeros32.map (Value.int .u8)).toArray.size := by simp [size31, zeros32]
  have HFIL : Hid (∀ W, Kept (fun _ => False) w W → Calls Tryd.prog 47 #[.slice ao xs.length c] W fun e w' => ∃ v', e = .returned v' ∧ w'.ownsRow W.heap.size 5 1 v' (64 * m) (full.map (Value.int .u8)) ∧ Kept (fun _ => False) W w') := fun W hW => by
    have := filled_any (.slice ao xs.length c) xs W (hx.kept hW (fun _ _ f => f)) hn
    rw [← hfull, show xs.length + (pad xs.length).length = 64 * m by rw [← List.length_append, ← hfull, hm]] at this
    exact this
  have HM := hid_of hm
  have HNZ : Hid (¬ m = 0) := by
    show ¬ m = 0
    have h1 : full.length = xs.length + (9 + zeros xs.length) := by rw [hfull, List.length_append, pad_length]
    omega
  clear hx hr hn hfull hm
  have hon := arr_one (st 0)
  have hsz := arr_size (st 0)
  have harr : s0.arr = (st 0).arr := by rw [HST0.out]
  go_enter Tryd.func41, Tryd.ntmps41
  go_wp2_with (first | (refine wpList_store_row rfl 87 _ _ rfl (w.heap.size + 1) s0.arr rfl rfl 87 _ (alloc_new _ _ (by simp)) (by rw [harr]; exact hsz) rfl (by rw [harr]; exact hon) ?_; rw [setRow_new _ _ _ _ (by simp)]))
  have HKA : Hid (Kept (fun _ => False) w ((w.alloc (.cells (zeros32.map (Value.int .u8)).toArray 57)).alloc (.cells (st 0).arr 87))) := ((Kept.refl _ w).alloc _).alloc _
  have HZA : Hid (((w.alloc (.cells (zeros32.map (Value.int .u8)).toArray 57)).alloc (.cells (st 0).arr 87)).heap[w.heap.size]? = some (.cells (zeros32.map (Value.int .u8)).toArray 57 (0, 0))) := alloc_old (alloc_new _ _ rfl)
  have HSA : Hid (((w.alloc (.cells (zeros32.map (Value.int .u8)).toArray 57)).alloc (.cells (st 0).arr 87)).heap[w.heap.size + 1]? = some (.cells (st 0).arr 87 (0, 0))) := alloc_new _ _ (by simp)
  have HZS : Hid (((w.alloc (.cells (zeros32.map (Value.int .u8)).toArray 57)).alloc (.cells (st 0).arr 87)).heap.size = w.heap.size + 2) := by show _ = _; simp
  change Calls Tryd.prog 47 _ ((w.alloc (.cells (zeros32.map (Value.int .u8)).toArray 57)).alloc (.cells (st 0).arr 87)) _
  generalize (w.alloc (.cells (zeros32.map (Value.int .u8)).toArray 57)).alloc (.cells (st 0).arr 87) = wA at *
  refine (HFIL.out wA HKA.out).mono ?_
  rintro e w1 ⟨v', rfl, hO, hk1⟩
  rw [HZS.out] at hO
  have HK1 := hid_of (HKA.out.trans hk1)
  have HZ1 := hid_of ((hk1.block _ (heap_lt HZA.out) (fun f => f)).trans HZA.out)
  have HS1 := hid_of ((hk1.block _ (heap_lt HSA.out) (fun f => f)).trans HSA.out)
  clear HKA HZA HSA HZS hk1 HFIL hon hsz harr
  have HMP : Hid (0 < m) := by
    show 0 < m
    have := HM.out
    have h2 := HSHA.out
    rcases Nat.eq_zero_or_pos m with h | h
    · exfalso
      exact HNZ.out h
    · exact h
  obtain ⟨gl, cap, hv', HCAP, HGL, HCL⟩ : ∃ gl cap, v' = .slice (some ⟨gl, 0, none⟩) (64 * m) cap ∧ Hid (64 * m ≤ cap) ∧ Hid (w.heap.size + 2 ≤ gl ∧ gl < w1.heap.size) ∧ Hid (∀ i, i < 64 * m → w1.cell? ⟨gl, i, none⟩ = some (.int .u8 (full.getD i 0))) := by
    have hO' := hO
    rcases hO.2 with ⟨_, h⟩ | ⟨g, cap, cur, rfl, hb, hg, hc, _⟩
    · have := HMP.out
      omega
    · refine ⟨g, cap, rfl, hc, ⟨hb, heap_lt hg⟩, fun i hi => ?_⟩
      have hi' : i < full.length := by rw [HM.out]; exact hi
      have := hO'.cells (g := g) rfl i (.int .u8 (full.getD i 0)) (by simp [List.getD, List.getElem?_eq_getElem hi'])
      rw [Addr.add_mid, Nat.zero_add] at this
      exact this
  subst hv'
  clear hO
  have hcap : 64 * m ≤ cap := HCAP.out
  go_wp2_with fail
  go_loopw [5] (fun i wr => ∃ k : Nat, k ≤ m ∧ i = .int .i64 (64 * (k : Int)) ∧ wr.heap[w.heap.size + 1]? = some (.cells (st k).arr 87 (0, 0)) ∧ Kept (fun k => k = w.heap.size + 1) w1 wr) (fun i _ => 64 * m - (intOf i).toNat)
  case atStart => exact ⟨0, by omega, rfl, HS1.out, Kept.refl _ _⟩
  case round =>
    clear HS1
    obtain ⟨k, hk, rfl, hS, hK⟩ := hrel
    by_cases hlt : k < m
    · have hkI : (64 * (k : Int)) < 64 * (m : Int) := by omega
      have HBLK : Hid (∀ W, Kept (fun _ => False) wr W → Calls Tryd.prog 48 #[.agg (st k).arr, .slice (if cap = 64 * k then some ⟨gl, 0, none⟩ else some ⟨gl, 64 * k, none⟩) 64 (cap - 64 * k)] W fun e w' => e = .returned (.agg (st (k + 1)).arr) ∧ Kept (fun _ => False) W w') := fun W hW => by
        rw [HSTN.out k, if_neg (by omega)]
        refine rblock_any (st k) ((full.drop (64 * k)).take 64) gl (64 * k) (cap - 64 * k) (by simp; have := HM.out; omega) (fun x hx => HRF.out x (List.mem_of_mem_drop (List.mem_of_mem_take hx))) W (fun i hi => ?_) (by omega)
        rw [take_at _ _ _ hi]
        exact hW.cell (hK.cell (HCL.out (64 * k + i) (by omega)) (by show ¬ (gl = w.heap.size + 1); have := HGL.out.1; omega)) (fun f => f)
      have hszk := arr_size (st k)
      have hszk' := arr_size (st (k + 1))
      have honk := arr_one (st (k + 1))
      have HS := hid_of hS
      have HK := hid_of hK
      have HSZ : Hid (∀ a b : S8, a.arr.size = b.arr.size) := fun _ _ => rfl
      clear hS hK
      have i64a : IntKind.i64.wrap (64 * (k : Int) + 64) = 64 * (k : Int) + 64 := by rw [IntKind.wrap_i64]; omega
      have b1 : (0 : Int) ≤ 64 * (k : Int) := by omega
      have b2 : 64 * (k : Int) ≤ 64 * (k : Int) + 64 := by omega
      have b3 : 64 * (k : Int) + 64 ≤ (cap : Int) := by omega
      have n1 : (64 * (k : Int)).toNat = 64 * k := by omega
      have n2 : (64 * (k : Int) + 64).toNat = 64 * k + 64 := by omega
      go_wp2
      have HB : Hid (Kept (fun _ => False) wr wr.drew) := (Kept.refl _ wr).drew
      refine wp_region_held_drew (S := fun _ => True) (by kernel_rfl) trivial (fun hHeld => ?_)
      refine wpAnyH_take (i := 1) (v := ?_) rfl (by kernel_rfl) (by kernel_rfl) (by kernel_rfl) (fun _ _ _ h => h) (Or.inl ⟨by rfl, ?_⟩) (by assumption) ?_
      rotate_left 1
      · intro w hSw
        go_simp
        try with_reducible rfl
      try simp only [Act.put, List.getElem_toArray, List.getElem_cons_zero, List.getElem_cons_succ, List.setIfInBounds_toArray, List.set_cons_zero, List.set_cons_succ]
      refine wpAnyH_take (i := 2) (v := ?_) rfl (by kernel_rfl) (by kernel_rfl) (by kernel_rfl) (fun _ _ _ h => h) (Or.inl ⟨by rfl, ?_⟩) (by assumption) ?_
      rotate_left 1
      · intro w hSw
        go_simp
        try with_reducible rfl
      try simp only [Act.put, List.getElem_toArray, List.getElem_cons_zero, List.getElem_cons_succ, List.setIfInBounds_toArray, List.set_cons_zero, List.set_cons_succ]
      refine wpAnyH_take (i := 3) (v := ?_) rfl (by kernel_rfl) (by kernel_rfl) (by kernel_rfl) (fun _ _ _ h => h) (Or.inl ⟨by rfl, ?_⟩) (by assumption) ?_
      rotate_left 1
      · intro w hSw
        go_simp
        try with_reducible rfl
      try simp only [Act.put, List.getElem_toArray, List.getElem_cons_zero, List.getElem_cons_succ, List.setIfInBounds_toArray, List.set_cons_zero, List.set_cons_succ]
      refine wpAnyH_take (i := 4) (v := ?_) rfl (by kernel_rfl) (by kernel_rfl) (by kernel_rfl) (fun _ _ _ h => h) (Or.inl ⟨by rfl, ?_⟩) (by assumption) ?_
      rotate_left 1
      · intro w hSw
        go_simp
        try with_reducible rfl
      try simp only [Act.put, List.getElem_toArray, List.getElem_cons_zero, List.getElem_cons_succ, List.setIfInBounds_toArray, List.set_cons_zero, List.set_cons_succ]
      refine wpAnyH_take (i := 5) (v := ?_) rfl (by kernel_rfl) (by kernel_rfl) (by kernel_rfl) (fun _ _ _ h => h) (Or.inl ⟨by rfl, ?_⟩) (by assumption) ?_
      rotate_left 1
      · intro w hSw
        go_simp
        try with_reducible rfl
      try simp only [Act.put, List.getElem_toArray, List.getElem_cons_zero, List.getElem_cons_succ, List.setIfInBounds_toArray, List.set_cons_zero, List.set_cons_succ]
      refine wpAnyH_ready (rs := [0]) (by kernel_rfl) (by simp) ?_
      refine AllReadyH.cons rfl (fun K hK => ?_) AllReadyH.nil
      refine step_load_row rfl 87 _ rfl (w.heap.size + 1) rfl 87 (st k).arr (0, 0) _ (show wr.drew.heap[_]? = _ from HS.out) Tryd.underlying87 rfl hszk ?_
      refine hK.out _ _ trivial (fun hHeld => ?_)
      clear hK K
      try simp only [Act.put, List.getElem_toArray, List.getElem_cons_zero, List.getElem_cons_succ, List.setIfInBounds_toArray, List.set_cons_zero, List.set_cons_succ]
      refine wpAnyH_ready (rs := [6]) (by kernel_rfl) (by simp) ?_
      refine AllReadyH.cons rfl (fun K hK => ?_) AllReadyH.nil
      go_simp
      refine (HBLK.out _ HB.out).mono ?_
      rintro e w' ⟨rfl, hk'⟩
      replace HB := hid_of (HB.out.trans hk')
      clear hk'
      refine hK.out _ _ trivial (fun hHeld => ?_)
      clear hK K
      try simp only [Act.put, List.getElem_toArray, List.getElem_cons_zero, List.getElem_cons_succ, List.setIfInBounds_toArray, List.set_cons_zero, List.set_cons_succ]
      have hSW := (HB.out.block _ (heap_lt HS.out) (fun f => f)).trans HS.out
      refine wpAnyH_ready (rs := [7]) (by kernel_rfl) (by simp) ?_
      refine AllReadyH.cons rfl (fun K hK => ?_) AllReadyH.nil
      refine step_store_row rfl 87 _ _ rfl (w.heap.size + 1) (st (k + 1)).arr rfl rfl 87 (st k).arr hSW hszk' (HSZ.out _ _) honk ?_
      refine hK.out _ _ trivial (fun hHeld => ?_)
      clear hK K
      try simp only [Act.put, List.getElem_toArray, List.getElem_cons_zero, List.getElem_cons_succ, List.setIfInBounds_toArray, List.set_cons_zero, List.set_cons_succ]
      refine wpAnyH_done (by kernel_rfl) ?_ _
      have HN : Hid ((w'.setRow (w.heap.size + 1) (st (k + 1)).arr).heap[w.heap.size + 1]? = some (.cells (st (k + 1)).arr 87 (0, 0))) := setRow_heap _ _ _ _ _ _ hSW
      have HKN : Hid (Kept (fun k => k = w.heap.size + 1) w1 (w'.setRow (w.heap.size + 1) (st (k + 1)).arr)) := (HK.out.step HB.out (fun _ _ f => f.elim)).setRow (.inr rfl) _
      clear hSW i64a b1 b2 b3 n1 n2 hszk hszk' honk
      try clear hHeld
      go_wp2
      go_roundw
      case rel => exact ⟨k + 1, by omega, by go_num, HN.out, HKN.out⟩
      case measure => simp [intOf]; omega
    · obtain rfl : k = m := by omega
      have HSr : Hid (Row wr (w.heap.size + 1) 87 .u32 8 8 (fun j => (st k).list.getD j 0)) := ⟨_, hS, rfl, fun j hj => list_at (st k) j hj⟩
      have HZr : Hid (Row wr w.heap.size 57 .u8 32 0 (fun _ => 0)) := ⟨_, (hK.block _ (heap_lt HZ1.out) (by show ¬ (w.heap.size = w.heap.size + 1); omega)).trans HZ1.out, by simp [zeros32], fun j hj => absurd hj (by omega)⟩
      have HKr : Hid (Kept (fun _ => False) w wr) := HK1.out.step hK (fun i hi e => by omega)
      have HDS : Hid (∀ j, j < 32 → (sha xs).getD j 0 = (st k).list.getD (j / 4) 0 / 2 ^ (8 * (3 - j % 4)) % 256) := fun j hj => by
        rw [HSHA.out]
        have e : 24 - j % 4 * 8 = 8 * (3 - j % 4) := by omega
        simp [dig, List.getD, hj, dbyte, e]
      have HSL : Hid ((sha xs).length = 32) := by show _ = _; rw [HSHA.out, dig_length]
      have HG1 : Hid (w.heap.size + 1 < wr.heap.size) := heap_lt hS
      clear hS hK HZ1 HK1 HCL HGL HST0 HSTN HRF HMP HM HX
      go_wp2_with fail
      have HKr2 : Hid (Kept (fun _ => False) wr (wr.alloc (.cells (zeros32.map (Value.int .u8)).toArray 57))) := (Kept.refl _ wr).alloc _
      have HS2 := hid_of (HSr.out.kept HKr2.out (fun f => f))
      have HZ2 := hid_of (HZr.out.kept HKr2.out (fun f => f))
      have HK2 := hid_of (HKr.out.trans HKr2.out)
      have HD2 : Hid (Row (wr.alloc (.cells (zeros32.map (Value.int .u8)).toArray 57)) wr.heap.size 57 .u8 32 0 (fun j => (sha xs).getD j 0)) := ⟨_, alloc_new _ _ rfl, by simp [zeros32], fun j hj => absurd hj (by omega)⟩
      clear HSr HZr HKr HKr2
      obtain ⟨lf, HLF⟩ : ∃ lf : Nat → Int, Hid (lf = fun j => (st k).list.getD j 0) := ⟨_, rfl⟩
      obtain ⟨df, HDF⟩ : ∃ df : Nat → Int, Hid (df = fun j => (sha xs).getD j 0) := ⟨_, rfl⟩
      have HDD : Hid (∀ j, j < 32 → df j = lf (j / 4) / 2 ^ (8 * (3 - j % 4)) % 256) := fun j hj => by rw [HLF.out, HDF.out]; exact HDS.out j hj
      rw [← HLF.out] at HS2
      rw [← HDF.out] at HD2
      clear HDS HLF HSHA
      have HGD : Hid (w.heap.size + 1 < wr.heap.size) := HG1.out
      have hgd := HG1.out
      generalize wr.heap.size = gd at *
      go_loopw [7] (fun i wr => ∃ j : Nat, j ≤ 32 ∧ i = .int .i64 j ∧ Row wr (w.heap.size + 1) 87 .u32 8 8 lf ∧ Row wr w.heap.size 57 .u8 32 0 (fun _ => 0) ∧ Row wr gd 57 .u8 32 j df ∧ Kept (fun _ => False) w wr) (fun i _ => 32 - (intOf i).toNat)
      case atStart => exact ⟨0, by omega, rfl, HS2.out, HZ2.out, HD2.out, HK2.out⟩
      case round =>
        clear HS2 HZ2 HD2 HK2
        obtain ⟨j, hj, rfl, hS, hZ, hD, hK⟩ := hrel
        by_cases hjt : j < 32
        · have hjI : (j : Int) < 32 := by omega
          have hc := hS.cell (k := j / 4) (by omega)
          obtain ⟨⟨u, hu⟩, hf⟩ := hD.there (k := j) hjt
          have hdj := HDD.out j hjt
          generalize lf (j / 4) = v at *
          have H2 : Hid (Row (wr.setCell ⟨gd, j, none⟩ (.int .u8 (v / 2 ^ (8 * (3 - j % 4)) % 256))) gd 57 .u8 32 (j + 1) df) := hD.set hjt _ hdj (fun i hi hne => ⟨by omega, rfl⟩)
          have H0 : Hid (∀ x, Row (wr.setCell ⟨gd, j, none⟩ x) (w.heap.size + 1) 87 .u32 8 8 lf) := fun x => hS.other _ _ (by show _ ≠ gd; omega)
          have H1 : Hid (∀ x, Row (wr.setCell ⟨gd, j, none⟩ x) w.heap.size 57 .u8 32 0 (fun _ => 0)) := fun x => hZ.other _ _ (by show _ ≠ gd; omega)
          have HK : Hid (∀ x, Kept (fun _ => False) w (wr.setCell ⟨gd, j, none⟩ x)) := fun x => hK.setCell (.inl (by show _ ≤ gd; omega)) _
          clear hS hZ hD hK hdj
          go_wp2
          go_roundw
          case rel => exact ⟨j + 1, by omega, by go_num, H0.out _, H1.out _, H2.out, HK.out _⟩
          case measure => simp [intOf]; omega
        · obtain rfl : j = 32 := by omega
          obtain ⟨cur, hB, hsz, hcur⟩ := hD
          obtain rfl := row_list (l := sha xs) hsz HSL.out (fun j hj => by rw [hcur j hj, HDF.out])
          obtain ⟨old, hO, hosz, _⟩ := hZ
          have h1 := oneCells .u8 (sha xs)
          have hs31 : (Tryd.prog.info? 57).map (·.size) = some ((sha xs).map (Value.int .u8)).toArray.size := by rw [size31]; simp [HSL.out]
          have hos : old.size = ((sha xs).map (Value.int .u8)).toArray.size := by simp [hosz, HSL.out]
          have HKR : Hid (Kept (fun _ => False) w (wr.setRow w.heap.size ((sha xs).map (Value.int .u8)).toArray)) := hK.setRow (.inl (Nat.le_refl _)) _
          have HRR := hid_of (setRow_heap wr w.heap.size old ((sha xs).map (Value.int .u8)).toArray 57 (0, 0) hO)
          clear hcur hsz hosz hK hS HDD HDF HSL
          generalize hcs : ((sha xs).map (Value.int .u8)).toArray = cs at *
          have HC := hid_of hcs
          clear hcs
          go_wp2_with (first | refine wpList_load_row rfl 57 _ rfl gd rfl 57 cs (0, 0) _ hB Tryd.underlying57 rfl hs31 ?_ | refine wpList_store_row rfl 57 _ _ rfl w.heap.size cs rfl rfl 57 old hO hs31 hos h1 ?_)
          refine bodyPost_ret (v := .agg cs) ?_ rfl ⟨by first | rfl | rw [HC.out], HKR.out⟩
          exact results_cell_row (by rfl) _ _ w.heap.size 57 cs (0, 0) _ (by rfl) HRR.out Tryd.underlying57 rfl hs31
end Go.Proofs.YtjdbmjkidljhpaaDoor

/-
  The walk of SumTurned.
-/
import Derived.Test.YtdbogfjkaebeoabDoorLend
import Derived.Test.YtdbogfjkaebeoabDoorEql
namespace Go.Proofs.YtdbogfjkaebeoabDoor
open Go.RowKit
set_option linter.unusedVariables false
set_option linter.unusedSimpArgs false

theorem app_made (W : World) (ty : TypeId) (g n c : Nat) (xs : List Int) (hn : xs.length = n) (hx : ∀ i, i < xs.length → W.cell? ⟨g, 0 + i, none⟩ = some (.int .u8 (xs.getD i 0))) (hsz : n ≤ 140737488355328) :
    ∃ v' w', (Builtin.append_ #[22, 22] ty #[.slice (some ⟨W.heap.size, 0, none⟩) 0 0, .slice (some ⟨g, 0, none⟩) n c]).run Tryd.prog (W.alloc (.cells #[] 5)) = .ok v' w' ∧ BIn w' v' xs ∧ Kept (fun _ => False) W w' := by
  obtain ⟨i0, hi, hz0, hz1, hz2⟩ := info_parts info5
  subst hn
  have hx' : ∀ i, i < xs.length → (W.alloc (.cells #[] 5)).cell? ⟨g, 0 + i, none⟩ = some (.int .u8 (xs.getD i 0)) := fun i hi => ((Kept.refl (fun _ => False) W).alloc _).cell (hx i hi) (fun f => f)
  obtain ⟨v', w', hr, h2, h3, h4⟩ := run_append_own (P := Tryd.prog) (W.alloc (.cells #[] 5)) W.heap.size 22 ty 5 i0 (.int .u8 0) 1 1 Tryd.underlying22 hi hz0 hz1 hz2 rfl (by decide) (.slice (some ⟨W.heap.size, 0, none⟩) 0 0) 0 [] (World.ownsRow_made W #[] 0 (Nat.le_refl _) (Nat.zero_le _) rfl) ⟨g, 0, none⟩ xs.length c (xs.map (Value.int .u8)) (by simp) (map_cells hx') (map_one xs) (by unfold maxLen; omega) (by omega) (by simp)
  refine ⟨v', w', hr, ?_, ?_⟩
  · rcases h2.2 with ⟨rfl, h0⟩ | ⟨g', cap, cur, rfl, hb, hg, hc, hm, hs, ht⟩
    · have e : xs = [] := List.eq_nil_of_length_eq_zero (by omega)
      subst e
      exact ⟨none, 0, rfl, Nat.le_refl _, .inl rfl⟩
    · refine ⟨_, cap, by rw [Nat.zero_add], by omega, .inr ⟨g', 0, rfl, fun i hi => ?_⟩⟩
      rw [cell_block _ _ _ _ _ _ hg, Nat.zero_add, ← Array.getElem?_toList]
      have : (cur.toList.take ((0 + xs.length) * 1))[i]? = cur.toList[i]? := List.getElem?_take_of_lt (by omega)
      rw [← this, ht]
      simp [List.getD, List.getElem?_eq_getElem hi]
  · exact ((Kept.refl (fun _ => False) W).alloc _).grown h3 (fun k hk => .inl (by cases hk; exact Nat.le_refl _))

theorem rangeT {w : World} {g : Nat} {cs : List Value} {t : TypeId} {f : Nat × Nat} (h : w.heap[g]? = some (.cells cs.toArray t f)) : w.rangeAt g 0 cs := fun j v hv => by
  rw [cell_block _ _ _ _ _ _ h, Nat.zero_add]
  simpa using hv
theorem xor_range (a b : Int) (h1 : 0 ≤ a) (h2 : a < 256) (h3 : 0 ≤ b) (h4 : b < 256) : 0 ≤ bits .xor .u8 a b ∧ bits .xor .u8 a b < 256 := by
  rw [u8_xor a b h1 h2 h3 h4]
  have : a.toNat ^^^ b.toNat < 2 ^ 8 := Nat.xor_lt_two_pow (by omega) (by omega)
  omega
theorem xor_back (a b : Int) (h1 : 0 ≤ a) (h2 : a < 256) (h3 : 0 ≤ b) (h4 : b < 256) : bits .xor .u8 (bits .xor .u8 a b) b = a := by
  have hr := xor_range a b h1 h2 h3 h4
  rw [u8_xor _ b hr.1 hr.2 h3 h4, u8_xor a b h1 h2 h3 h4, Int.toNat_natCast, Nat.xor_assoc, Nat.xor_self, Nat.xor_zero]
  omega
theorem step_app {P : Program} {w : World} {ops : Array Oper} {o : Oper} {a : Act} {K : Act → World → Prop} {Q : Exit → Act → World → Prop} {E : Prop} (hg : o.guard = none) (s x : Operand) (t u : TypeId)
    (ho : o.op = .call { callee := .builtin .append, args := #[s, x], argTypes := #[t, u] }) (v bv : Value) (hs : a.eval s = v) (hx : a.eval x = bv) (v' : Value) (w' : World)
    (hr : (Builtin.append_ #[t, u] o.type #[v, bv]).run P w = .ok v' w') (h : K (a.put o.dst v') w') :
    if Region.wanted o (yielded ops a.tmps) = true then Oper.wp P o a w K Q else E := by
  have hw : Region.wanted o (yielded ops a.tmps) = true := by simp [Region.wanted, hg]
  rw [if_pos hw]
  unfold Oper.wp
  simp [execOp, ho, resolve, invoke, builtin, hs, hx, hr, Result.andThen]
  exact h
theorem of_mine (W : World) (ao : Option Addr) (n c : Nat) (ys : List Int) (hB : BIn W (.slice ao n c) ys) (hr : ∀ x ∈ ys, 0 ≤ x ∧ x < 256) (hL : Laid W) (hlen : ys.length < 1152921504606846976) :
    Calls Tryd.prog 10 #[.slice (some ⟨W.heap.size, 0, none⟩) 1 1] (W.alloc (.cells #[.slice ao n c] 22)) fun e w' => e = .returned (.agg ((sha ys).map (Value.int .u8)).toArray) ∧ Kept (fun _ => False) W w' := by
  have hk : Kept (fun _ => False) W (W.alloc (.cells #[.slice ao n c] 22)) := (Kept.refl _ W).alloc _
  refine (of_one (.slice ao n c) ys (W.alloc (.cells #[.slice ao n c] 22)) W.heap.size (alloc_new _ _ rfl) (hB.kept hk (fun _ _ f => f)) hr (laid_kept hL hk (fun f => f)) hlen).mono ?_
  rintro e w' ⟨rfl, h⟩
  exact ⟨rfl, hk.trans h⟩
theorem sha_length (l : List Int) : (sha l).length = 32 := by simp [sha, dig]

set_option maxRecDepth 100000 in
set_option maxHeartbeats 4000000 in
theorem sumTurned_some (ao : Option Addr) (n c kk rr : Nat) (xs : List Int) (at' bit : Int) (w : World) (hx : BIn w (.slice ao n c) xs) (hn : xs.length = n) (hr : ∀ x ∈ xs, 0 ≤ x ∧ x < 256) (hlen : n ≤ 140737488351232) (hpos : 0 < n)
    (hk : kk < n) (hrr : rr < 8) (hRA : ∀ W, Calls Tryd.prog 9 #[.int .i64 at', .int .i64 (n : Int)] W fun e w' => e = .returned (.int .i64 (kk : Int)) ∧ w' = W) (hRB : ∀ W, Calls Tryd.prog 9 #[.int .i64 bit, .int .i64 8] W fun e w' => e = .returned (.int .i64 (rr : Int)) ∧ w' = W) (hL : Laid w) :
    Calls Tryd.prog 3 #[.slice ao n c, .int .i64 at', .int .i64 bit] w fun e w' => e = .returned (.bool true) ∧ Kept (fun _ => False) w w' := by
  have HKN := hid_of (known_any w hL)
  have HX := hid_of hx
  have HN := hid_of hn
  have HR := hid_of hr
  have HL := hid_of hL
  have HRA := hid_of hRA
  have HRB := hid_of hRB
  have hn0 : ¬ (n : Int) = 0 := by omega
  clear hx hn hr hRA hRB hL
  go_enter Tryd.func3, Tryd.ntmps3
  go_wp2_with fail
  refine HKN.out.mono ?_
  rintro e w1 ⟨rfl, hk1⟩
  have HK1 := hid_of hk1
  clear hk1 HKN
  go_wp2_with fail
  have hlend := lend_any (.slice ao n c) xs w1 (HX.out.kept HK1.out (fun _ _ f => f)) (by rw [HN.out]; omega)
  rw [HN.out] at hlend
  have HLE := hid_of hlend
  clear hlend
  refine HLE.out.mono ?_
  rintro e w2 ⟨rfl, hl2, hk2⟩
  have HL2 := hid_of hl2
  have HK2 := hid_of (HK1.out.trans hk2)
  have HG : Hid (w.heap.size ≤ w1.heap.size ∧ w1.heap.size < w2.heap.size) := ⟨HK1.out.size, by obtain ⟨cur, h0, _⟩ := hl2; exact heap_lt h0⟩
  clear hl2 hk2 HLE
  generalize w1.heap.size = g at *
  go_wp2_with fail
  refine (HRA.out _).mono ?_
  rintro e w' ⟨rfl, rfl⟩
  clear HRA
  go_wp2_with fail
  have HBX : Hid (∀ l : List Int, (Tryd.prog.info? 27).map (·.size) = some ((sha l).map (Value.int .u8)).length) := fun l => by rw [size28, List.length_map, sha_length]
  have HO32 : Hid (∀ l : List Int, 32 = ((sha l).map (Value.int .u8)).length) := fun l => by rw [List.length_map, sha_length]
  have hlN : xs.length < 1152921504606846976 := by rw [HN.out]; omega
  have hB2 := HL2.out.bin
  rw [HN.out] at hB2
  refine (of_mine _ _ _ _ xs hB2 HR.out (laid_kept HL.out HK2.out (fun f => f)) hlN).mono ?_
  clear hB2
  rintro e w3 ⟨rfl, hk3⟩
  have hs1 := HBX.out xs
  have ho1 := HO32.out xs
  have HO1 := hid_of ho1
  have hc1 := oneCells .u8 (sha xs)
  clear ho1
  generalize hcf : (sha xs).map (Value.int .u8) = cf at *
  have HCF := hid_of hcf
  clear hcf
  have hF3 : (w3.alloc (.cells cf.toArray 27)).heap[w3.heap.size]? = some (.cells cf.toArray 27 (0, 0)) := alloc_new _ _ rfl
  have HL3 := hid_of ((HL2.out.kept hk3 (fun f => f)).kept ((Kept.refl (fun _ => False) w3).alloc (.cells cf.toArray 27)) (fun f => f))
  have HK3 := hid_of ((HK2.out.trans hk3).alloc (.cells cf.toArray 27))
  have HF3 := hid_of hF3
  have HGF : Hid (w.heap.size ≤ w3.heap.size ∧ g ≠ w3.heap.size) := ⟨(HK2.out.trans hk3).size, by have := HG.out.2; have := hk3.size; omega⟩
  clear hk3 hF3 HL2 HK2
  go_wp2_with (first | (refine wpList_store_row rfl 27 _ _ rfl w3.heap.size cf.toArray rfl rfl 27 _ (alloc_new _ _ rfl) hs1 HO1.out hc1 ?_; rw [setRow_new _ _ _ _ rfl]))
  generalize w3.heap.size = f at *
  generalize w3.alloc (.cells cf.toArray 27) = w4 at *
  have hcell := HL3.out.at (k := kk) (by rw [HN.out]; omega)
  have hcr : 0 ≤ xs.getD kk 0 ∧ xs.getD kk 0 < 256 := HR.out _ (by rw [List.getD, List.getElem?_eq_getElem (by rw [HN.out]; omega)]; simp)
  have hfz := (HL3.out.cells (k := kk) (by rw [HN.out]; omega)).2
  have hcd : w4.drew.cell? ⟨g, kk, none⟩ = some (.int .u8 (xs.getD kk 0)) := hcell
  have hfd : w4.drew.frozen? ⟨g, kk, none⟩ = false := hfz
  have hkI : (kk : Int) < (n : Int) := by omega
  have hrI : (rr : Int) < 8 := by omega
  clear hcell hfz
  generalize hcx : xs.getD kk 0 = cx at *
  have HCX := hid_of hcx
  clear hcx
  refine wp_region_held_drew (S := fun _ => True) (by kernel_rfl) trivial (fun hHeld => ?_)
  refine wpAnyH_take (i := 0) (v := ?_) rfl (by kernel_rfl) (by kernel_rfl) (by kernel_rfl) (fun _ _ _ h => h) (Or.inl ⟨by rfl, ?_⟩) (by assumption) ?_
  rotate_left 1
  · intro w hSw
    go_simp
    try with_reducible rfl
  try simp only [Act.put, List.getElem_toArray, List.getElem_cons_zero, List.getElem_cons_succ, List.setIfInBounds_toArray, List.set_cons_zero, List.set_cons_succ]
  refine wpAnyH_take (i := 1) (v := ?_) rfl (by kernel_rfl) (by kernel_rfl) (by kernel_rfl) (fun _ _ _ h => h) (Or.inl ⟨by rfl, ?_⟩) (by assumption) ?_
  rotate_left 1
  · intro w hSw
    go_simp
    try with_reducible rfl
  try simp only [Act.put, List.getElem_toArray, List.getElem_cons_zero, List.getElem_cons_succ, List.setIfInBounds_toArray, List.set_cons_zero, List.set_cons_succ]
  refine wpAnyH_take (i := 2) (v := ?_) rfl (by kernel_rfl) (by kernel_rfl) (by kernel_rfl) (fun _ _ _ h => h) (Or.inl ⟨by rfl, ?_⟩) (by assumption) ?_
  rotate_left 1
  · intro w hSw
    go_simp
    try with_reducible rfl
  try simp only [Act.put, List.getElem_toArray, List.getElem_cons_zero, List.getElem_cons_succ, List.setIfInBounds_toArray, List.set_cons_zero, List.set_cons_succ]
  refine wpAnyH_take (i := 3) (v := ?_) rfl (by kernel_rfl) (by kernel_rfl) (by kernel_rfl) (fun _ _ _ h => h) (Or.inl ⟨by rfl, ?_⟩) (by assumption) ?_
  rotate_left 1
  · intro w hSw
    go_simp
    try with_reducible rfl
  try simp only [Act.put, List.getElem_toArray, List.getElem_cons_zero, List.getElem_cons_succ, List.setIfInBounds_toArray, List.set_cons_zero, List.set_cons_succ]
  refine wpAnyH_take (i := 4) (v := ?_) rfl (by kernel_rfl) (by kernel_rfl) (by kernel_rfl) (fun _ _ _ h => h) (Or.inl ⟨by rfl, ?_⟩) (by assumption) ?_
  rotate_left 1
  · intro w hSw
    go_simp
    try with_reducible rfl
  try simp only [Act.put, List.getElem_toArray, List.getElem_cons_zero, List.getElem_cons_succ, List.setIfInBounds_toArray, List.set_cons_zero, List.set_cons_succ]
  refine wpAnyH_take (i := 6) (v := ?_) rfl (by kernel_rfl) (by kernel_rfl) (by kernel_rfl) (fun _ _ _ h => h) (Or.inl ⟨by rfl, ?_⟩) (by assumption) ?_
  rotate_left 1
  · intro w hSw
    go_simp
    try with_reducible rfl
  try simp only [Act.put, List.getElem_toArray, List.getElem_cons_zero, List.getElem_cons_succ, List.setIfInBounds_toArray, List.set_cons_zero, List.set_cons_succ]
  refine (fun (hfin : ?G) => ?main) ?fin
  case main =>
    refine wpAnyH_ready (rs := [5, 7]) (by kernel_rfl) (by simp) ?_
    refine AllReadyH.cons rfl (fun K hK => ?_) (AllReadyH.cons rfl (fun K hK => ?_) AllReadyH.nil)
    · go_simp
      refine hK.out _ _ trivial (fun hHeld => ?_)
      clear hK K
      try simp only [Act.put, List.getElem_toArray, List.getElem_cons_zero, List.getElem_cons_succ, List.setIfInBounds_toArray, List.set_cons_zero, List.set_cons_succ]
      refine wpAnyH_ready (rs := [7]) (by kernel_rfl) (by simp) ?_
      refine AllReadyH.cons rfl (fun K hK => ?_) AllReadyH.nil
      go_simp
      refine (HRB.out _).mono ?_
      rintro e w' ⟨rfl, rfl⟩
      refine hK.out _ _ trivial (fun hHeld => ?_)
      clear hK K
      try simp only [Act.put, List.getElem_toArray, List.getElem_cons_zero, List.getElem_cons_succ, List.setIfInBounds_toArray, List.set_cons_zero, List.set_cons_succ]
      refine wpAnyH_take (i := 8) (v := ?_) rfl (by kernel_rfl) (by kernel_rfl) (by kernel_rfl) (fun _ _ _ h => h) (Or.inl ⟨by rfl, ?_⟩) (by assumption) ?_
      rotate_left 1
      · intro w hSw
        go_simp
        try with_reducible rfl
      try simp only [Act.put, List.getElem_toArray, List.getElem_cons_zero, List.getElem_cons_succ, List.setIfInBounds_toArray, List.set_cons_zero, List.set_cons_succ]
      refine wpAnyH_take (i := 9) (v := ?_) rfl (by kernel_rfl) (by kernel_rfl) (by kernel_rfl) (fun _ _ _ h => h) (Or.inl ⟨by rfl, ?_⟩) (by assumption) ?_
      rotate_left 1
      · intro w hSw
        go_simp
        try with_reducible rfl
      try simp only [Act.put, List.getElem_toArray, List.getElem_cons_zero, List.getElem_cons_succ, List.setIfInBounds_toArray, List.set_cons_zero, List.set_cons_succ]
      refine wpAnyH_take (i := 10) (v := ?_) rfl (by kernel_rfl) (by kernel_rfl) (by kernel_rfl) (fun _ _ _ h => h) (Or.inl ⟨by rfl, ?_⟩) (by assumption) ?_
      rotate_left 1
      · intro w hSw
        go_simp
        try with_reducible rfl
      try simp only [Act.put, List.getElem_toArray, List.getElem_cons_zero, List.getElem_cons_succ, List.setIfInBounds_toArray, List.set_cons_zero, List.set_cons_succ]
      refine wpAnyH_ready (rs := [11]) (by kernel_rfl) (by simp) ?_
      refine AllReadyH.cons rfl (fun K hK => ?_) AllReadyH.nil
      go_simp
      refine hK.out _ _ trivial (fun hHeld => ?_)
      clear hK K
      try simp only [Act.put, List.getElem_toArray, List.getElem_cons_zero, List.getElem_cons_succ, List.setIfInBounds_toArray, List.set_cons_zero, List.set_cons_succ]
      refine wpAnyH_done (by kernel_rfl) ?_ _
      exact hfin
    · go_simp
      refine (HRB.out _).mono ?_
      rintro e w' ⟨rfl, rfl⟩
      refine hK.out _ _ trivial (fun hHeld => ?_)
      clear hK K
      try simp only [Act.put, List.getElem_toArray, List.getElem_cons_zero, List.getElem_cons_succ, List.setIfInBounds_toArray, List.set_cons_zero, List.set_cons_succ]
      refine wpAnyH_take (i := 8) (v := ?_) rfl (by kernel_rfl) (by kernel_rfl) (by kernel_rfl) (fun _ _ _ h => h) (Or.inl ⟨by rfl, ?_⟩) (by assumption) ?_
      rotate_left 1
      · intro w hSw
        go_simp
        try with_reducible rfl
      try simp only [Act.put, List.getElem_toArray, List.getElem_cons_zero, List.getElem_cons_succ, List.setIfInBounds_toArray, List.set_cons_zero, List.set_cons_succ]
      refine wpAnyH_ready (rs := [5]) (by kernel_rfl) (by simp) ?_
      refine AllReadyH.cons rfl (fun K hK => ?_) AllReadyH.nil
      go_simp
      refine hK.out _ _ trivial (fun hHeld => ?_)
      clear hK K
      try simp only [Act.put, List.getElem_toArray, List.getElem_cons_zero, List.getElem_cons_succ, List.setIfInBounds_toArray, List.set_cons_zero, List.set_cons_succ]
      refine wpAnyH_take (i := 9) (v := ?_) rfl (by kernel_rfl) (by kernel_rfl) (by kernel_rfl) (fun _ _ _ h => h) (Or.inl ⟨by rfl, ?_⟩) (by assumption) ?_
      rotate_left 1
      · intro w hSw
        go_simp
        try with_reducible rfl
      try simp only [Act.put, List.getElem_toArray, List.getElem_cons_zero, List.getElem_cons_succ, List.setIfInBounds_toArray, List.set_cons_zero, List.set_cons_succ]
      refine wpAnyH_take (i := 10) (v := ?_) rfl (by kernel_rfl) (by kernel_rfl) (by kernel_rfl) (fun _ _ _ h => h) (Or.inl ⟨by rfl, ?_⟩) (by assumption) ?_
      rotate_left 1
      · intro w hSw
        go_simp
        try with_reducible rfl
      try simp only [Act.put, List.getElem_toArray, List.getElem_cons_zero, List.getElem_cons_succ, List.setIfInBounds_toArray, List.set_cons_zero, List.set_cons_succ]
      refine wpAnyH_ready (rs := [11]) (by kernel_rfl) (by simp) ?_
      refine AllReadyH.cons rfl (fun K hK => ?_) AllReadyH.nil
      go_simp
      refine hK.out _ _ trivial (fun hHeld => ?_)
      clear hK K
      try simp only [Act.put, List.getElem_toArray, List.getElem_cons_zero, List.getElem_cons_succ, List.setIfInBounds_toArray, List.set_cons_zero, List.set_cons_succ]
      refine wpAnyH_done (by kernel_rfl) ?_ _
      exact hfin
  case fin =>
    clear hcd hfd hHeld
    have HQ : Hid (0 ≤ IntKind.u8.wrap (2 ^ rr) ∧ IntKind.u8.wrap (2 ^ rr) < 256) := by
      constructor
      · simp [IntKind.wrap, IntKind.bits, IntKind.signed]; omega
      · simp [IntKind.wrap, IntKind.bits, IntKind.signed]; omega
    generalize hqe : IntKind.u8.wrap (2 ^ rr) = q at *
    have HQE := hid_of hqe
    clear hqe
    have HY : Hid (0 ≤ bits .xor .u8 cx q ∧ bits .xor .u8 cx q < 256) := xor_range cx q hcr.1 hcr.2 HQ.out.1 HQ.out.2
    have HYY : Hid (bits .xor .u8 (bits .xor .u8 cx q) q = cx) := xor_back cx q hcr.1 hcr.2 HQ.out.1 HQ.out.2
    generalize bits .xor .u8 cx q = y at *
    have HL5 : Hid (Lent (w4.setCell ⟨g, kk, none⟩ (.int .u8 y)).drew g (xs.set kk y) 67) := HL3.out.set (by rw [HN.out]; omega) y
    have HK5 : Hid (Kept (fun _ => False) w (w4.setCell ⟨g, kk, none⟩ (.int .u8 y)).drew) := (HK3.out.setCell (.inl HG.out.1) _).drew
    have HF5 : Hid ((w4.setCell ⟨g, kk, none⟩ (.int .u8 y)).drew.heap[f]? = some (.cells cf.toArray 27 (0, 0))) := ((kept_set w4 ⟨g, kk, none⟩ (.int .u8 y)).block f (heap_lt HF3.out) (fun e => HGF.out.2 e.symm)).trans HF3.out
    generalize (w4.setCell ⟨g, kk, none⟩ (.int .u8 y)).drew = w5 at *
    clear HL3 HK3 HF3 hcr
    have HN2 : Hid ((xs.set kk y).length = n) := by rw [show (xs.set kk y).length = xs.length from List.length_set ..]; exact HN.out
    have HR2 : Hid (∀ x ∈ xs.set kk y, 0 ≤ x ∧ x < 256) := fun x hx => by
      rcases List.mem_or_eq_of_mem_set hx with h | rfl
      · exact HR.out x h
      · exact HY.out
    have HBK : Hid ((xs.set kk y).set kk cx = xs) := by
      show _ = _
      rw [List.set_set, ← HCX.out]
      apply List.ext_getElem (by simp)
      intro i h1 h2
      rw [List.getElem_set]
      split
      · rename_i e
        subst e
        simp [List.getD, h2]
      · rfl
    have HYA : Hid ((xs.set kk y).getD kk 0 = y) := by
      show _ = _
      have hq : kk < xs.length := by rw [HN.out]; omega
      simp [List.getD, hq]
    generalize xs.set kk y = ys at *
    have hlM : ys.length < 1152921504606846976 := by rw [HN2.out]; omega
    go_wp2_with fail
    have hB5 := HL5.out.bin
    rw [HN2.out] at hB5
    refine (of_mine _ _ _ _ ys hB5 HR2.out (laid_kept HL.out HK5.out (fun f => f)) hlM).mono ?_
    clear hB5
    rintro e w6 ⟨rfl, hk6⟩
    have hs2 := HBX.out ys
    have HO2 := hid_of (HO32.out ys)
    have hc2 := oneCells .u8 (sha ys)
    have hne : ∀ W, (binOp .neq 27 (.agg ((sha ys).map (Value.int .u8)).toArray) (.agg ((sha ys).map (Value.int .u8)).toArray)).run Tryd.prog W = .ok (.bool false) W := fun W => by
      rw [run_neq32 W 27 (sha ys) (sha ys) Tryd.underlying27 (sha_length _) (sha_length _)]
      simp
    have HOF : Hid (∀ (W : World) (ao : Option Addr) (m c : Nat), BIn W (.slice ao m c) ys → Laid W → Calls Tryd.prog 10 #[.slice (some ⟨W.heap.size, 0, none⟩) 1 1] (W.alloc (.cells #[.slice ao m c] 22)) fun e w' => e = .returned (.agg ((sha ys).map (Value.int .u8)).toArray) ∧ Kept (fun _ => False) W w') := fun W ao m c hB hL => of_mine W ao m c ys hB HR2.out hL hlM
    generalize (sha ys).map (Value.int .u8) = co at *
    have HL6 := hid_of ((HL5.out.kept hk6 (fun f => f)).kept ((Kept.refl (fun _ => False) w6).alloc (.cells co.toArray 27)) (fun f => f))
    have HK6 := hid_of ((HK5.out.trans hk6).alloc (.cells co.toArray 27))
    have HF6 : Hid ((w6.alloc (.cells co.toArray 27)).heap[f]? = some (.cells cf.toArray 27 (0, 0))) := alloc_old ((hk6.block f (heap_lt HF5.out) (fun f => f)).trans HF5.out)
    have HA1 : Hid ((w6.alloc (.cells co.toArray 27)).rangeAt w6.heap.size 0 co) := rangeT (alloc_new _ _ rfl)
    clear hk6 HL5 HK5 HF5
    go_wp2_with (first | (refine wpList_store_row rfl 27 _ _ rfl w6.heap.size co.toArray rfl rfl 27 _ (alloc_new _ _ rfl) hs2 HO2.out hc2 ?_; rw [setRow_new _ _ _ _ rfl]))
    generalize w6.heap.size = o at *
    generalize w6.alloc (.cells co.toArray 27) = w7 at *
    have hu27 := Tryd.underlying27
    have HB : Hid (Kept (fun _ => False) w7 w7.drew) := (Kept.refl _ w7).drew
    obtain ⟨va, wa, happ, hBa, hka⟩ := app_made w7.drew 22 g n (n + 67) ys HN2.out (fun i hi => by rw [Nat.zero_add]; exact HL6.out.at hi) (by omega)
    obtain ⟨aa, ca, rfl⟩ : ∃ aa ca, va = .slice aa n ca := by
      obtain ⟨aa, ca, h, _⟩ := hBa
      rw [HN2.out] at h
      exact ⟨aa, ca, h⟩
    have HBA := hid_of hBa
    have HKA := hid_of hka
    clear hBa hka
    refine wp_region_held_drew (S := fun w' => w'.rangeAt o 0 co) (by kernel_rfl) (range_kept HA1.out HB.out (fun f => f)) (fun hHeld => ?_)
    refine wpAnyH_take (i := 0) (v := .agg co.toArray) rfl (by kernel_rfl) (by kernel_rfl) (by kernel_rfl) (fun _ _ _ h => h) (yieldsIf_load_mid (by rfl) 27 _ rfl o 0 rfl co _ (fun w hSw => hSw) hu27 rfl hs2) (by assumption) ?_
    try simp only [Act.put, List.getElem_toArray, List.getElem_cons_zero, List.getElem_cons_succ, List.setIfInBounds_toArray, List.set_cons_zero, List.set_cons_succ]
    refine wpAnyH_take (i := 2) (v := ?_) rfl (by kernel_rfl) (by kernel_rfl) (by kernel_rfl) (fun _ _ _ h => h) (Or.inl ⟨by rfl, ?_⟩) (by assumption) ?_
    rotate_left 1
    · intro w hSw
      go_simp
      try with_reducible rfl
    try simp only [Act.put, List.getElem_toArray, List.getElem_cons_zero, List.getElem_cons_succ, List.setIfInBounds_toArray, List.set_cons_zero, List.set_cons_succ]
    refine wpAnyH_ready (rs := [1]) (by kernel_rfl) (by simp) ?_
    refine AllReadyH.cons rfl (fun K hK => ?_) AllReadyH.nil
    go_simp
    replace HB := hid_of (HB.out.alloc (.cells #[] 5))
    refine hK.out _ _ (range_kept HA1.out HB.out (fun f => f)) (fun hHeld => ?_)
    clear hK K
    try simp only [Act.put, List.getElem_toArray, List.getElem_cons_zero, List.getElem_cons_succ, List.setIfInBounds_toArray, List.set_cons_zero, List.set_cons_succ]
    have HB0 : Hid (Kept (fun _ => False) w7 w7.drew) := (Kept.refl _ w7).drew
    refine wpAnyH_ready (rs := [3]) (by kernel_rfl) (by simp) ?_
    refine AllReadyH.cons rfl (fun K hK => ?_) AllReadyH.nil
    refine step_app rfl (.tmp 43) (.tmp 44) 22 22 rfl _ _ rfl rfl _ _ happ ?_
    replace HB := hid_of (HB0.out.trans HKA.out)
    refine hK.out _ _ (range_kept HA1.out HB.out (fun f => f)) (fun hHeld => ?_)
    clear hK K
    try simp only [Act.put, List.getElem_toArray, List.getElem_cons_zero, List.getElem_cons_succ, List.setIfInBounds_toArray, List.set_cons_zero, List.set_cons_succ]
    clear happ
    replace HB := hid_of (HB.out.alloc (.cells #[.slice aa n ca] 22))
    refine wpAnyH_ready (rs := [4]) (by kernel_rfl) (by simp) ?_
    refine AllReadyH.cons rfl (fun K hK => ?_) AllReadyH.nil
    go_simp
    refine hK.out _ _ (range_kept HA1.out HB.out (fun f => f)) (fun hHeld => ?_)
    clear hK K
    try simp only [Act.put, List.getElem_toArray, List.getElem_cons_zero, List.getElem_cons_succ, List.setIfInBounds_toArray, List.set_cons_zero, List.set_cons_succ]
    replace HB := hid_of (HB0.out.trans HKA.out)
    refine wpAnyH_ready (rs := [5]) (by kernel_rfl) (by simp) ?_
    refine AllReadyH.cons rfl (fun K hK => ?_) AllReadyH.nil
    go_simp
    refine (HOF.out wa aa n ca HBA.out (laid_kept HL.out (HK6.out.trans HB.out) (fun f => f))).mono ?_
    rintro e wN ⟨rfl, hk'⟩
    replace HB := hid_of (HB.out.trans hk')
    clear hk'
    refine hK.out _ _ (range_kept HA1.out HB.out (fun f => f)) (fun hHeld => ?_)
    clear hK K
    try simp only [Act.put, List.getElem_toArray, List.getElem_cons_zero, List.getElem_cons_succ, List.setIfInBounds_toArray, List.set_cons_zero, List.set_cons_succ]
    refine wpAnyH_take (i := 6) (v := ?_) rfl (by kernel_rfl) (by kernel_rfl) (by kernel_rfl) (fun _ _ _ h => h) (Or.inl ⟨by rfl, ?_⟩) (by assumption) ?_
    rotate_left 1
    · intro w hSw
      go_simp
      try with_reducible rfl
    try simp only [Act.put, List.getElem_toArray, List.getElem_cons_zero, List.getElem_cons_succ, List.setIfInBounds_toArray, List.set_cons_zero, List.set_cons_succ]
    refine wpAnyH_done (by kernel_rfl) ?_ _
    have HL7 := hid_of (HL6.out.kept HB.out (fun f => f))
    have HK7 := hid_of (HK6.out.trans HB.out)
    have HF7 := hid_of ((HB.out.block f (heap_lt HF6.out) (fun f => f)).trans HF6.out)
    clear HL6 HK6 HF6 HB HB0 HA1 HKA HBA hHeld hne
    go_wp2_with fail
    have hB7 := HL7.out.bin
    rw [HN2.out] at hB7
    refine (HOF.out _ _ _ _ hB7 (laid_kept HL.out HK7.out (fun f => f))).mono ?_
    clear hB7
    rintro e w8 ⟨rfl, hk8⟩
    have HL8 := hid_of (HL7.out.kept hk8 (fun f => f))
    have HK8 := hid_of (HK7.out.trans hk8)
    have HF8 := hid_of ((hk8.block f (heap_lt HF7.out) (fun f => f)).trans HF7.out)
    clear HL7 HK7 HF7 hk8 HOF
    go_wp2_with fail
    have hcd : w8.drew.cell? ⟨g, kk, none⟩ = some (.int .u8 y) := by
      have h := HL8.out.at (k := kk) (by rw [HN2.out]; omega)
      rw [HYA.out] at h
      exact h
    have hfd : w8.drew.frozen? ⟨g, kk, none⟩ = false := (HL8.out.cells (k := kk) (by rw [HN2.out]; omega)).2
    refine wp_region_held_drew (S := fun _ => True) (by kernel_rfl) trivial (fun hHeld => ?_)
    refine wpAnyH_take (i := 0) (v := ?_) rfl (by kernel_rfl) (by kernel_rfl) (by kernel_rfl) (fun _ _ _ h => h) (Or.inl ⟨by rfl, ?_⟩) (by assumption) ?_
    rotate_left 1
    · intro w hSw
      go_simp
      try with_reducible rfl
    try simp only [Act.put, List.getElem_toArray, List.getElem_cons_zero, List.getElem_cons_succ, List.setIfInBounds_toArray, List.set_cons_zero, List.set_cons_succ]
    refine wpAnyH_take (i := 1) (v := ?_) rfl (by kernel_rfl) (by kernel_rfl) (by kernel_rfl) (fun _ _ _ h => h) (Or.inl ⟨by rfl, ?_⟩) (by assumption) ?_
    rotate_left 1
    · intro w hSw
      go_simp
      try with_reducible rfl
    try simp only [Act.put, List.getElem_toArray, List.getElem_cons_zero, List.getElem_cons_succ, List.setIfInBounds_toArray, List.set_cons_zero, List.set_cons_succ]
    refine wpAnyH_take (i := 2) (v := ?_) rfl (by kernel_rfl) (by kernel_rfl) (by kernel_rfl) (fun _ _ _ h => h) (Or.inl ⟨by rfl, ?_⟩) (by assumption) ?_
    rotate_left 1
    · intro w hSw
      go_simp
      try with_reducible rfl
    try simp only [Act.put, List.getElem_toArray, List.getElem_cons_zero, List.getElem_cons_succ, List.setIfInBounds_toArray, List.set_cons_zero, List.set_cons_succ]
    refine wpAnyH_take (i := 3) (v := ?_) rfl (by kernel_rfl) (by kernel_rfl) (by kernel_rfl) (fun _ _ _ h => h) (Or.inl ⟨by rfl, ?_⟩) (by assumption) ?_
    rotate_left 1
    · intro w hSw
      go_simp
      try with_reducible rfl
    try simp only [Act.put, List.getElem_toArray, List.getElem_cons_zero, List.getElem_cons_succ, List.setIfInBounds_toArray, List.set_cons_zero, List.set_cons_succ]
    refine wpAnyH_take (i := 4) (v := ?_) rfl (by kernel_rfl) (by kernel_rfl) (by kernel_rfl) (fun _ _ _ h => h) (Or.inl ⟨by rfl, ?_⟩) (by assumption) ?_
    rotate_left 1
    · intro w hSw
      go_simp
      try with_reducible rfl
    try simp only [Act.put, List.getElem_toArray, List.getElem_cons_zero, List.getElem_cons_succ, List.setIfInBounds_toArray, List.set_cons_zero, List.set_cons_succ]
    refine wpAnyH_take (i := 6) (v := ?_) rfl (by kernel_rfl) (by kernel_rfl) (by kernel_rfl) (fun _ _ _ h => h) (Or.inl ⟨by rfl, ?_⟩) (by assumption) ?_
    rotate_left 1
    · intro w hSw
      go_simp
      try with_reducible rfl
    try simp only [Act.put, List.getElem_toArray, List.getElem_cons_zero, List.getElem_cons_succ, List.setIfInBounds_toArray, List.set_cons_zero, List.set_cons_succ]
    refine (fun (hfin : ?Gb) => ?mainb) ?finb
    case mainb =>
      refine wpAnyH_ready (rs := [5, 7]) (by kernel_rfl) (by simp) ?_
      refine AllReadyH.cons rfl (fun K hK => ?_) (AllReadyH.cons rfl (fun K hK => ?_) AllReadyH.nil)
      · go_simp
        refine hK.out _ _ trivial (fun hHeld => ?_)
        clear hK K
        try simp only [Act.put, List.getElem_toArray, List.getElem_cons_zero, List.getElem_cons_succ, List.setIfInBounds_toArray, List.set_cons_zero, List.set_cons_succ]
        refine wpAnyH_ready (rs := [7]) (by kernel_rfl) (by simp) ?_
        refine AllReadyH.cons rfl (fun K hK => ?_) AllReadyH.nil
        go_simp
        refine (HRB.out _).mono ?_
        rintro e w' ⟨rfl, rfl⟩
        refine hK.out _ _ trivial (fun hHeld => ?_)
        clear hK K
        try simp only [Act.put, List.getElem_toArray, List.getElem_cons_zero, List.getElem_cons_succ, List.setIfInBounds_toArray, List.set_cons_zero, List.set_cons_succ]
        refine wpAnyH_take (i := 8) (v := ?_) rfl (by kernel_rfl) (by kernel_rfl) (by kernel_rfl) (fun _ _ _ h => h) (Or.inl ⟨by rfl, ?_⟩) (by assumption) ?_
        rotate_left 1
        · intro w hSw
          go_simp
          try with_reducible rfl
        try simp only [Act.put, List.getElem_toArray, List.getElem_cons_zero, List.getElem_cons_succ, List.setIfInBounds_toArray, List.set_cons_zero, List.set_cons_succ]
        refine wpAnyH_take (i := 9) (v := ?_) rfl (by kernel_rfl) (by kernel_rfl) (by kernel_rfl) (fun _ _ _ h => h) (Or.inl ⟨by rfl, ?_⟩) (by assumption) ?_
        rotate_left 1
        · intro w hSw
          go_simp
          try with_reducible rfl
        try simp only [Act.put, List.getElem_toArray, List.getElem_cons_zero, List.getElem_cons_succ, List.setIfInBounds_toArray, List.set_cons_zero, List.set_cons_succ]
        refine wpAnyH_take (i := 10) (v := ?_) rfl (by kernel_rfl) (by kernel_rfl) (by kernel_rfl) (fun _ _ _ h => h) (Or.inl ⟨by rfl, ?_⟩) (by assumption) ?_
        rotate_left 1
        · intro w hSw
          go_simp
          try with_reducible rfl
        try simp only [Act.put, List.getElem_toArray, List.getElem_cons_zero, List.getElem_cons_succ, List.setIfInBounds_toArray, List.set_cons_zero, List.set_cons_succ]
        refine wpAnyH_ready (rs := [11]) (by kernel_rfl) (by simp) ?_
        refine AllReadyH.cons rfl (fun K hK => ?_) AllReadyH.nil
        go_simp
        refine hK.out _ _ trivial (fun hHeld => ?_)
        clear hK K
        try simp only [Act.put, List.getElem_toArray, List.getElem_cons_zero, List.getElem_cons_succ, List.setIfInBounds_toArray, List.set_cons_zero, List.set_cons_succ]
        refine wpAnyH_done (by kernel_rfl) ?_ _
        exact hfin
      · go_simp
        refine (HRB.out _).mono ?_
        rintro e w' ⟨rfl, rfl⟩
        refine hK.out _ _ trivial (fun hHeld => ?_)
        clear hK K
        try simp only [Act.put, List.getElem_toArray, List.getElem_cons_zero, List.getElem_cons_succ, List.setIfInBounds_toArray, List.set_cons_zero, List.set_cons_succ]
        refine wpAnyH_take (i := 8) (v := ?_) rfl (by kernel_rfl) (by kernel_rfl) (by kernel_rfl) (fun _ _ _ h => h) (Or.inl ⟨by rfl, ?_⟩) (by assumption) ?_
        rotate_left 1
        · intro w hSw
          go_simp
          try with_reducible rfl
        try simp only [Act.put, List.getElem_toArray, List.getElem_cons_zero, List.getElem_cons_succ, List.setIfInBounds_toArray, List.set_cons_zero, List.set_cons_succ]
        refine wpAnyH_ready (rs := [5]) (by kernel_rfl) (by simp) ?_
        refine AllReadyH.cons rfl (fun K hK => ?_) AllReadyH.nil
        go_simp
        refine hK.out _ _ trivial (fun hHeld => ?_)
        clear hK K
        try simp only [Act.put, List.getElem_toArray, List.getElem_cons_zero, List.getElem_cons_succ, List.setIfInBounds_toArray, List.set_cons_zero, List.set_cons_succ]
        refine wpAnyH_take (i := 9) (v := ?_) rfl (by kernel_rfl) (by kernel_rfl) (by kernel_rfl) (fun _ _ _ h => h) (Or.inl ⟨by rfl, ?_⟩) (by assumption) ?_
        rotate_left 1
        · intro w hSw
          go_simp
          try with_reducible rfl
        try simp only [Act.put, List.getElem_toArray, List.getElem_cons_zero, List.getElem_cons_succ, List.setIfInBounds_toArray, List.set_cons_zero, List.set_cons_succ]
        refine wpAnyH_take (i := 10) (v := ?_) rfl (by kernel_rfl) (by kernel_rfl) (by kernel_rfl) (fun _ _ _ h => h) (Or.inl ⟨by rfl, ?_⟩) (by assumption) ?_
        rotate_left 1
        · intro w hSw
          go_simp
          try with_reducible rfl
        try simp only [Act.put, List.getElem_toArray, List.getElem_cons_zero, List.getElem_cons_succ, List.setIfInBounds_toArray, List.set_cons_zero, List.set_cons_succ]
        refine wpAnyH_ready (rs := [11]) (by kernel_rfl) (by simp) ?_
        refine AllReadyH.cons rfl (fun K hK => ?_) AllReadyH.nil
        go_simp
        refine hK.out _ _ trivial (fun hHeld => ?_)
        clear hK K
        try simp only [Act.put, List.getElem_toArray, List.getElem_cons_zero, List.getElem_cons_succ, List.setIfInBounds_toArray, List.set_cons_zero, List.set_cons_succ]
        refine wpAnyH_done (by kernel_rfl) ?_ _
        exact hfin
    case finb =>
      clear hcd hfd hHeld
      rw [HQE.out, HYY.out]
      have HL9 : Hid (Lent (w8.setCell ⟨g, kk, none⟩ (.int .u8 cx)).drew g xs 67) := by
        have h := HL8.out.set (k := kk) (by rw [HN2.out]; omega) cx
        rw [HBK.out] at h
        exact h
      have HK9 : Hid (Kept (fun _ => False) w (w8.setCell ⟨g, kk, none⟩ (.int .u8 cx)).drew) := (HK8.out.setCell (.inl HG.out.1) _).drew
      have HF9 : Hid ((w8.setCell ⟨g, kk, none⟩ (.int .u8 cx)).drew.heap[f]? = some (.cells cf.toArray 27 (0, 0))) := ((kept_set w8 ⟨g, kk, none⟩ (.int .u8 cx)).block f (heap_lt HF8.out) (fun e => HGF.out.2 e.symm)).trans HF8.out
      clear HL8 HK8 HF8
      go_wp2_with fail
      generalize (w8.setCell ⟨g, kk, none⟩ (.int .u8 cx)).drew = w9 at *
      have HOX : Hid (∀ (W : World) (ao : Option Addr) (m c : Nat), BIn W (.slice ao m c) xs → Laid W → Calls Tryd.prog 10 #[.slice (some ⟨W.heap.size, 0, none⟩) 1 1] (W.alloc (.cells #[.slice ao m c] 22)) fun e w' => e = .returned (.agg cf.toArray) ∧ Kept (fun _ => False) W w') := fun W ao m c hB hL => by
        rw [← HCF.out]
        exact of_mine W ao m c xs hB HR.out hL hlN
      have heq : ∀ W, (binOp .eql 27 (.agg cf.toArray) (.agg cf.toArray)).run Tryd.prog W = .ok (.bool true) W := fun W => by
        rw [← HCF.out, run_eql32 W 27 (sha xs) (sha xs) Tryd.underlying27 (sha_length _) (sha_length _)]
        simp
      have HA1 : Hid (w9.rangeAt f 0 cf) := rangeT HF9.out
      have HB : Hid (Kept (fun _ => False) w9 w9.drew) := (Kept.refl _ w9).drew
      have hB9 := HL9.out.bin
      rw [HN.out] at hB9
      have HB9 := hid_of hB9
      clear hB9
      refine wp_region_held_drew (S := fun w' => w'.rangeAt f 0 cf) (by kernel_rfl) (range_kept HA1.out HB.out (fun f => f)) (fun hHeld => ?_)
      refine wpAnyH_take (i := 0) (v := ?_) rfl (by kernel_rfl) (by kernel_rfl) (by kernel_rfl) (fun _ _ _ h => h) (Or.inl ⟨by rfl, ?_⟩) (by assumption) ?_
      rotate_left 1
      · intro w hSw
        go_simp
        try with_reducible rfl
      try simp only [Act.put, List.getElem_toArray, List.getElem_cons_zero, List.getElem_cons_succ, List.setIfInBounds_toArray, List.set_cons_zero, List.set_cons_succ]
      refine wpAnyH_take (i := 3) (v := .agg cf.toArray) rfl (by kernel_rfl) (by kernel_rfl) (by kernel_rfl) (fun _ _ _ h => h) (yieldsIf_load_mid (by rfl) 27 _ rfl f 0 rfl cf _ (fun w hSw => hSw) hu27 rfl hs1) (by assumption) ?_
      try simp only [Act.put, List.getElem_toArray, List.getElem_cons_zero, List.getElem_cons_succ, List.setIfInBounds_toArray, List.set_cons_zero, List.set_cons_succ]
      replace HB := hid_of (HB.out.alloc (.cells #[.slice (some ⟨g, 0, none⟩) n (n + 67)] 22))
      refine wpAnyH_ready (rs := [1]) (by kernel_rfl) (by simp) ?_
      refine AllReadyH.cons rfl (fun K hK => ?_) AllReadyH.nil
      go_simp
      refine hK.out _ _ (range_kept HA1.out HB.out (fun f => f)) (fun hHeld => ?_)
      clear hK K
      try simp only [Act.put, List.getElem_toArray, List.getElem_cons_zero, List.getElem_cons_succ, List.setIfInBounds_toArray, List.set_cons_zero, List.set_cons_succ]
      replace HB : Hid (Kept (fun _ => False) w9 w9.drew) := (Kept.refl _ w9).drew
      refine wpAnyH_ready (rs := [2]) (by kernel_rfl) (by simp) ?_
      refine AllReadyH.cons rfl (fun K hK => ?_) AllReadyH.nil
      go_simp
      refine (HOX.out w9.drew (some ⟨g, 0, none⟩) n (n + 67) (HB9.out.kept HB.out (fun _ _ f => f)) (laid_kept HL.out (HK9.out.trans HB.out) (fun f => f))).mono ?_
      rintro e wN ⟨rfl, hk'⟩
      replace HB := hid_of (HB.out.trans hk')
      clear hk'
      refine hK.out _ _ (range_kept HA1.out HB.out (fun f => f)) (fun hHeld => ?_)
      clear hK K
      try simp only [Act.put, List.getElem_toArray, List.getElem_cons_zero, List.getElem_cons_succ, List.setIfInBounds_toArray, List.set_cons_zero, List.set_cons_succ]
      refine wpAnyH_take (i := 4) (v := ?_) rfl (by kernel_rfl) (by kernel_rfl) (by kernel_rfl) (fun _ _ _ h => h) (Or.inl ⟨by rfl, ?_⟩) (by assumption) ?_
      rotate_left 1
      · intro w hSw
        go_simp
        try with_reducible rfl
      try simp only [Act.put, List.getElem_toArray, List.getElem_cons_zero, List.getElem_cons_succ, List.setIfInBounds_toArray, List.set_cons_zero, List.set_cons_succ]
      refine wpAnyH_take (i := 5) (v := ?_) rfl (by kernel_rfl) (by kernel_rfl) (by kernel_rfl) (fun _ _ _ h => h) (Or.inl ⟨by rfl, ?_⟩) (by assumption) ?_
      rotate_left 1
      · intro w hSw
        go_simp
        try with_reducible rfl
      try simp only [Act.put, List.getElem_toArray, List.getElem_cons_zero, List.getElem_cons_succ, List.setIfInBounds_toArray, List.set_cons_zero, List.set_cons_succ]
      refine wpAnyH_take (i := 6) (v := .agg cf.toArray) rfl (by kernel_rfl) (by kernel_rfl) (by kernel_rfl) (fun _ _ _ h => h) (yieldsIf_load_mid (by rfl) 27 _ rfl f 0 rfl cf _ (fun w hSw => hSw) hu27 rfl hs1) (by assumption) ?_
      try simp only [Act.put, List.getElem_toArray, List.getElem_cons_zero, List.getElem_cons_succ, List.setIfInBounds_toArray, List.set_cons_zero, List.set_cons_succ]
      refine wpAnyH_take (i := 7) (v := ?_) rfl (by kernel_rfl) (by kernel_rfl) (by kernel_rfl) (fun _ _ _ h => h) (Or.inl ⟨by rfl, ?_⟩) (by assumption) ?_
      rotate_left 1
      · intro w hSw
        go_simp
        try with_reducible rfl
      try simp only [Act.put, List.getElem_toArray, List.getElem_cons_zero, List.getElem_cons_succ, List.setIfInBounds_toArray, List.set_cons_zero, List.set_cons_succ]
      have HBS := hid_of HB.out
      replace HB := hid_of (HB.out.alloc (.cells #[.slice ao n c] 22))
      refine wpAnyH_ready (rs := [8]) (by kernel_rfl) (by simp) ?_
      refine AllReadyH.cons rfl (fun K hK => ?_) AllReadyH.nil
      go_simp
      refine hK.out _ _ (range_kept HA1.out HB.out (fun f => f)) (fun hHeld => ?_)
      clear hK K
      try simp only [Act.put, List.getElem_toArray, List.getElem_cons_zero, List.getElem_cons_succ, List.setIfInBounds_toArray, List.set_cons_zero, List.set_cons_succ]
      replace HB := HBS
      refine wpAnyH_ready (rs := [9]) (by kernel_rfl) (by simp) ?_
      refine AllReadyH.cons rfl (fun K hK => ?_) AllReadyH.nil
      go_simp
      refine (HOX.out _ ao n c (HX.out.kept (HK9.out.trans HB.out) (fun _ _ f => f)) (laid_kept HL.out (HK9.out.trans HB.out) (fun f => f))).mono ?_
      rintro e wN ⟨rfl, hk'⟩
      replace HB := hid_of (HB.out.trans hk')
      clear hk'
      refine hK.out _ _ (range_kept HA1.out HB.out (fun f => f)) (fun hHeld => ?_)
      clear hK K
      try simp only [Act.put, List.getElem_toArray, List.getElem_cons_zero, List.getElem_cons_succ, List.setIfInBounds_toArray, List.set_cons_zero, List.set_cons_succ]
      refine wpAnyH_take (i := 10) (v := ?_) rfl (by kernel_rfl) (by kernel_rfl) (by kernel_rfl) (fun _ _ _ h => h) (Or.inl ⟨by rfl, ?_⟩) (by assumption) ?_
      rotate_left 1
      · intro w hSw
        go_simp
        try with_reducible rfl
      try simp only [Act.put, List.getElem_toArray, List.getElem_cons_zero, List.getElem_cons_succ, List.setIfInBounds_toArray, List.set_cons_zero, List.set_cons_succ]
      refine wpAnyH_take (i := 11) (v := ?_) rfl (by kernel_rfl) (by kernel_rfl) (by kernel_rfl) (fun _ _ _ h => h) (Or.inl ⟨by rfl, ?_⟩) (by assumption) ?_
      rotate_left 1
      · intro w hSw
        go_simp
        try with_reducible rfl
      try simp only [Act.put, List.getElem_toArray, List.getElem_cons_zero, List.getElem_cons_succ, List.setIfInBounds_toArray, List.set_cons_zero, List.set_cons_succ]
      refine wpAnyH_take (i := 12) (v := ?_) rfl (by kernel_rfl) (by kernel_rfl) (by kernel_rfl) (fun _ _ _ h => h) (Or.inl ⟨by rfl, ?_⟩) (by assumption) ?_
      rotate_left 1
      · intro w hSw
        go_simp
        try with_reducible rfl
      try simp only [Act.put, List.getElem_toArray, List.getElem_cons_zero, List.getElem_cons_succ, List.setIfInBounds_toArray, List.set_cons_zero, List.set_cons_succ]
      refine wpAnyH_done (by kernel_rfl) ?_ _
      go_wp2
      go_ret
      exact ⟨rfl, HK9.out.trans HB.out⟩

set_option maxRecDepth 100000 in
set_option maxHeartbeats 1000000 in
theorem sumTurned_none (ao : Option Addr) (c : Nat) (at' bit : Int) (w : World) (hL : Laid w) :
    Calls Tryd.prog 3 #[.slice ao 0 c, .int .i64 at', .int .i64 bit] w fun e w' => e = .returned (.bool true) ∧ Kept (fun _ => False) w w' := by
  have HKN := hid_of (fun W (h : Kept (fun _ => False) w W) => known_any W (laid_kept hL h (fun f => f)))
  clear hL
  go_enter Tryd.func3, Tryd.ntmps3
  go_wp2_with fail
  refine (HKN.out _ (Kept.refl _ w)).mono ?_
  rintro e w1 ⟨rfl, hk1⟩
  have HK1 := hid_of hk1
  clear hk1
  go_wp2_with fail
  refine (HKN.out _ HK1.out).mono ?_
  rintro e w2 ⟨rfl, hk2⟩
  have HK2 := hid_of (HK1.out.trans hk2)
  clear hk2
  go_wp2_with fail
  go_ret
  exact ⟨rfl, HK2.out⟩

theorem sumTurned_walk (v : Value) (xs : List Int) (at' bit : Int) (w : World) (hx : BIn w v xs) (hr : ∀ x ∈ xs, 0 ≤ x ∧ x < 256) (hlen : xs.length ≤ 140737488351232)
    (ha0 : -9223372036854775808 ≤ at') (ha1 : at' ≤ 9223372036854775807) (hb0 : -9223372036854775808 ≤ bit) (hb1 : bit ≤ 9223372036854775807) (hL : Laid w) :
    Calls Tryd.prog 3 #[v, .int .i64 at', .int .i64 bit] w fun e w' => e = .returned (.bool true) ∧ Kept (fun _ => False) w w' := by
  obtain ⟨ao, c, rfl⟩ : ∃ ao c, v = .slice ao xs.length c := by
    obtain ⟨ao, c, h, _⟩ := hx
    exact ⟨ao, c, h⟩
  by_cases h0 : xs.length = 0
  · rw [h0]
    exact sumTurned_none ao c at' bit w hL
  · have e1 := Int.emod_nonneg at' (show (xs.length : Int) ≠ 0 by omega)
    have e2 := Int.emod_lt_of_pos at' (show (0 : Int) < (xs.length : Int) by omega)
    have e3 := Int.emod_nonneg bit (show (8 : Int) ≠ 0 by decide)
    have e4 := Int.emod_lt_of_pos bit (show (0 : Int) < 8 by decide)
    refine sumTurned_some ao xs.length c (at' % (xs.length : Int)).toNat (bit % 8).toNat xs at' bit w hx rfl hr hlen (by omega) (by omega) (by omega) (fun W => ?_) (fun W => ?_) hL
    · rw [Int.toNat_of_nonneg e1]
      exact round_any at' xs.length W ha0 ha1 (by omega) (by omega)
    · rw [Int.toNat_of_nonneg e3]
      exact round_any bit 8 W hb0 hb1 (by decide) (by decide)
end Go.Proofs.YtdbogfjkaebeoabDoor

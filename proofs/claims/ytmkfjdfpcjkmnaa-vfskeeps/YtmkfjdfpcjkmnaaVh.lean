/-
  Bytes laid into a file.
-/
import Derived.Test.YtmkfjdfpcjkmnaaVg
import Derived.Test.YtmkfjdfpcjkmnaaTk
import Derived.Test.YtmkfjdfpcjkmnaaRow
import Derived.Deep.DeepCutAuto
import Derived.Laws.CopyRow
import Derived.Laws.IdiomCopy
namespace Go.Proofs.Ytmkfjdfpcjkmnaa
open Go.RowKit
set_option linter.unusedVariables false
set_option linter.unusedSimpArgs false
set_option maxRecDepth 100000

theorem step_app {P : Program} {w : World} {ops : Array Oper} {o : Oper} {a : Act} {K : Act → World → Prop} {Q : Exit → Act → World → Prop} {E : Prop} (hg : o.guard = none) (s x : Operand) (t u : TypeId)
    (ho : o.op = .call { callee := .builtin .append, args := #[s, x], argTypes := #[t, u] }) (v bv : Value) (hs : a.eval s = v) (hx : a.eval x = bv) (v' : Value) (w' : World)
    (hr : (Builtin.append_ #[t, u] o.type #[v, bv]).run P w = .ok v' w') (h : K (a.put o.dst v') w') :
    if Region.wanted o (yielded ops a.tmps) = true then Oper.wp P o a w K Q else E := by
  have hw : Region.wanted o (yielded ops a.tmps) = true := by simp [Region.wanted, hg]
  rw [if_pos hw]
  unfold Oper.wp
  simp [execOp, ho, resolve, invoke, builtin, hs, hx, hr, Result.andThen]
  exact h
theorem slice_from (ao : Option Addr) (L cap k : Nat) (hk : k ≤ L) : ∃ ao', (∀ g o, ao = some ⟨g, o, none⟩ → k < cap → ao' = some ⟨g, o + k, none⟩) ∧ (∀ g o, ao = some ⟨g, o, none⟩ → ∃ o', ao' = some ⟨g, o', none⟩) ∧ ∀ W, (Instr.slice 33 (.slice ao L cap) (some (.int .i64 k)) none none).run Try.prog W = .ok (.slice ao' (L - k) (cap - k)) W := by
  refine ⟨if cap = k then ao else ao.map (·.add (k * 1)), fun g o h hk => ?_, fun g o h => ?_, fun W => ?_⟩
  · rw [if_neg (by omega), h]
    simp [Addr.add_lit]
  · split
    · exact ⟨o, h⟩
    · exact ⟨o + k, by rw [h]; simp [Addr.add_lit]⟩
  · simp [Instr.slice, Instr.sliceBounds, Instr.sliceBound, run_underlying Try.underlying33, asIntOf, hk, sizeOf, typeInfo]
    obtain ⟨i, hi, hz, hs, hby⟩ := info_parts info5
    simp [hi, hs]
/-- Bytes with others laid at a place. -/
def layB (xs : List Int) (p : Nat) (ys : List Int) : List Int := (xs ++ List.replicate (p - xs.length) 0).take p ++ ys ++ xs.drop (p + ys.length)
def ints (l : List Int) : List Value := l.map (Value.int .u8)
/-- What is left where bytes were laid into a file's box. -/
def Laid (w : World) (q : Nat) (a1 a2 : ByteArray) (dv : Value) (zs : List Int) (w' : World) : Prop :=
  ∃ dv', w'.heap[q]? = some (.cells #[.string a1, .string a2, .bool false, dv'] 99 (0, 0)) ∧ w'.ownsRow 0 5 1 dv' zs.length (ints zs) ∧ (dv'.ownBlock = dv.ownBlock ∨ ∃ g, dv'.ownBlock = some g ∧ w.heap.size ≤ g) ∧ Kept (fun k => k = q ∨ dv.ownBlock = some k) w w'
theorem not_box {w : World} {q : Nat} {cs : Array Value} {t : Nat} (ht : t ≠ 5) (hb : w.heap[q]? = some (.cells cs t (0, 0))) {v : Value} {n : Nat} {xs : List Value} (ho : w.ownsRow 0 5 1 v n xs) : v.ownBlock ≠ some q := fun e => by
  obtain ⟨_, ⟨rfl, _⟩ | ⟨g, cap, cur, rfl, _, hg, _⟩⟩ := ho
  · cases e
  · cases e
    rw [hb] at hg
    injection hg with hg
    injection hg with _ h2 _
    exact ht h2
theorem grown_kept {S : Nat → Prop} {w w' : World} {row : Option Nat} (h : w.grownBy w' row) (hs : ∀ k, row = some k → S k) : Kept S w w' := (Kept.refl S w).grown h (fun k hk => .inr (hs k hk))
theorem ints_len (l : List Int) : (ints l).length = l.length := by simp [ints]
theorem ints_one (l : List Int) : ∀ u ∈ ints l, u.oneCell' = true := fun u hu => by
  obtain ⟨x, _, rfl⟩ := List.mem_map.1 hu
  rfl
/-- One row of bytes of an FS put behind another one. -/
theorem app_row (w : World) (v : Value) (zs ys : List Int) (ho : w.ownsRow 0 5 1 v zs.length (ints zs)) (ab ao m c : Nat) (hm : ys.length = m) (hsrc : ∀ j u, (ints ys)[j]? = some u → w.cell? ⟨ab, ao + j, none⟩ = some u) (hb : zs.length + m ≤ 1099511627776) :
    ∃ v' w', (Builtin.append_ #[33, 33] 33 #[v, .slice (some ⟨ab, ao, none⟩) m c]).run Try.prog w = .ok v' w' ∧ w'.ownsRow 0 5 1 v' (zs ++ ys).length (ints (zs ++ ys)) ∧ w.grownBy w' v.ownBlock ∧ (v'.ownBlock = v.ownBlock ∨ v'.ownBlock = some w.heap.size) := by
  obtain ⟨i, hi, hz, hs, hby⟩ := info_parts info5
  obtain ⟨v', w', h1, h2, h3, _, h4⟩ := run_append_own_at (P := Try.prog) w 0 33 33 5 i _ 1 1 Try.underlying33 hi hz hs hby rfl (by decide) v zs.length (ints zs) ho ⟨ab, ao, none⟩ m c (ints ys) (by rw [ints_len, hm, Nat.mul_one]) (fun j u hu => by rw [Addr.add_lit]; exact hsrc j u hu) (ints_one ys) (by unfold maxLen; omega) (by omega) (Nat.zero_le _)
  refine ⟨v', w', h1, ?_, h3, h4⟩
  rw [List.length_append, hm]
  unfold ints at *
  rw [List.map_append]
  exact h2
set_option maxHeartbeats 4000000 in
theorem lay_gap (q : Nat) (a1 a2 : ByteArray) (dv : Value) (xs ys : List Int) (p ab ao c : Nat) (w : World) (hbx : w.heap[q]? = some (.cells #[.string a1, .string a2, .bool false, dv] 99 (0, 0))) (hown : w.ownsRow 0 5 1 dv xs.length (ints xs)) (hsrc : ∀ j u, (ints ys)[j]? = some u → w.cell? ⟨ab, ao + j, none⟩ = some u) (hyc : ys.length ≤ c) (h0 : 0 < ys.length) (hab : dv.ownBlock ≠ some ab) (hne : ab ≠ q) (hlim : p + ys.length ≤ 1048576) (hxl : xs.length ≤ 1048576) (hlt : xs.length < p) :
    Calls Try.prog 70 #[.pointer (some ⟨q, 0, none⟩), .int .i64 p, .slice (some ⟨ab, ao, none⟩) ys.length c] w fun e w' => e = .returned (.tuple #[]) ∧ Laid w q a1 a2 dv (layB xs p ys) w' := by
  obtain ⟨ao0, cap0, rfl⟩ := row_slice hown
  have hqd := not_box (by decide) hbx hown
  obtain ⟨v1, w1, hr1, ho1, hg1, hb1⟩ := append_gap w _ xs.length _ hown (p - xs.length) (by omega) (by omega)
  have hz : (xs ++ List.replicate (p - xs.length) 0).length = p := by simp; omega
  have ho1' : w1.ownsRow 0 5 1 v1 (xs ++ List.replicate (p - xs.length) 0).length (ints (xs ++ List.replicate (p - xs.length) 0)) := by
    rw [hz]
    have : xs.length + (p - xs.length) = p := by omega
    rw [this] at ho1
    simpa [ints] using ho1
  obtain ⟨zs, hzs⟩ : ∃ zs, zs = xs ++ List.replicate (p - xs.length) 0 := ⟨_, rfl⟩
  rw [← hzs] at ho1' hz
  obtain ⟨ao1, cap1, hv1⟩ := row_slice ho1'
  rw [hz] at hv1
  subst hv1
  have hbx1 : w1.heap[q]? = some (.cells #[.string a1, .string a2, .bool false, .slice ao0 xs.length cap0] 99 (0, 0)) := (hg1.block q (heap_lt hbx) (fun e => hqd e.symm)).trans hbx
  have hW3 := set_block w1 q 3 _ 99 (0, 0) hbx1 (.slice ao1 p cap1)
  have hk3 : Kept (fun k => k = q ∨ (Value.slice ao0 xs.length cap0).ownBlock = some k) w (w1.setCell ⟨q, 3, none⟩ (.slice ao1 p cap1)) := ((grown_kept hg1 (fun k h => .inr h)).setCell (p := ⟨q, 3, none⟩) (.inr (.inl rfl)) _)
  have hq1 := not_box (by decide) hbx1 ho1'
  have ho3 : (w1.setCell ⟨q, 3, none⟩ (.slice ao1 p cap1)).ownsRow 0 5 1 (.slice ao1 p cap1) zs.length (ints zs) := (kept_set w1 ⟨q, 3, none⟩ (.slice ao1 p cap1)).ownsRow ho1' (fun g hg e => hq1 (by rw [hg]; exact congrArg some e))
  have hsrc3 : ∀ j u, (ints ys)[j]? = some u → (w1.setCell ⟨q, 3, none⟩ (.slice ao1 p cap1)).cell? ⟨ab, ao + j, none⟩ = some u := fun j u hu => hk3.cell (hsrc j u hu) (fun e => e.elim (fun e => hne e) (fun e => hab e))
  obtain ⟨ao2, _, _, hsl⟩ := slice_from ao1 p cap1 p (Nat.le_refl _)
  obtain ⟨ao5, h5, _, hsl5⟩ := slice_from (some ⟨ab, ao, none⟩) ys.length c 0 (Nat.zero_le _)
  obtain rfl := h5 ab ao rfl (by omega)
  have hsl6 : ∀ W, (Instr.slice 33 (.slice (some ⟨ab, ao, none⟩) ys.length c) (some (.int .i64 0)) none none).run Try.prog W = .ok (.slice (some ⟨ab, ao, none⟩) ys.length c) W := fun W => by simpa using hsl5 W
  clear hsl5 h5
  have hcp := run_copy_none (P := Try.prog) (w1.setCell ⟨q, 3, none⟩ (.slice ao1 p cap1)) 33 33 3 5 ao2 (some ⟨ab, ao, none⟩) (p - p) (cap1 - p) ys.length c Try.underlying33 (by obtain ⟨i, hi, hz, hs, hby⟩ := info_parts info5; rw [hi]; simp [hs]) (by simp)
  rw [Nat.sub_self] at hcp
  have c3 : (w1.setCell ⟨q, 3, none⟩ (.slice ao1 p cap1)).cell? ⟨q, 3, none⟩ = some (.slice ao1 p cap1) := (cell_block _ _ 3 _ _ _ hW3).trans rfl
  have c0 : w.cell? ⟨q, 3, none⟩ = some (.slice ao0 xs.length cap0) := (cell_block _ _ 3 _ _ _ hbx).trans rfl
  have c1 : w1.cell? ⟨q, 3, none⟩ = some (.slice ao0 xs.length cap0) := (cell_block _ _ 3 _ _ _ hbx1).trans rfl
  have f1 := frozen_block w1 q 3 _ _ hbx1
  have wr1 : IntKind.i64.wrap ((p : Int) - (xs.length : Int)) = ((p - xs.length : Nat) : Int) := by rw [IntKind.wrap_i64]; omega
  have hgt : (0 : Int) < ((p - xs.length : Nat) : Int) := by omega
  have HR1 := hid_of hr1
  have HSRC3 := hid_of hsrc3
  have HO3 := hid_of ho3
  have HW3 := hid_of hW3
  have HK3 := hid_of hk3
  have HB1 := hid_of hb1
  have HZS : Hid (zs ++ ys = layB xs p ys) := by
    show _ = _
    rw [layB, ← hzs, List.take_of_length_le (by omega), List.drop_of_length_le (by omega), List.append_nil]
  have HSZ := hid_of hg1.size
  have HQ1 := hid_of hq1
  generalize xs.length = n at *
  clear hsrc3 ho3 hW3 hk3 hb1 hzs hg1 hr1 ho1 ho1' hown hq1 hqd hbx hbx1 hsrc
  generalize hM : ys.length = m at *
  have HM := hid_of hM
  clear hM
  go_enter Try.func70, Try.ntmps70
  go_upto_region 4 with (at_builtin; refine wp_app rfl (.tmp 21) (.tmp 22) 33 3 ?_ _ _ rfl rfl _ _ HR1.out ?_; rfl)
  clear c0 c1 f1 HR1 hcp hsl wr1 hgt
  generalize w1.setCell ⟨q, 3, none⟩ (.slice ao1 p cap1) = W3 at *
  have HS4 : Hid (∀ w', Kept (fun _ => False) W3 w' → w'.cell? ⟨q, 3, none⟩ = some (.slice ao1 p cap1) ∧ True) := fun w' hw => ⟨hw.cell c3 (fun f => f), trivial⟩
  have hkd : Kept (fun _ => False) W3 W3.drew := (Kept.refl _ W3).drew
  obtain ⟨v4, w4, hr4, ho4, hg4, hb4⟩ := app_row W3.drew (.slice ao1 p cap1) zs ys (hkd.ownsRow HO3.out (fun _ _ f => f)) ab ao m c HM.out (fun j u hu => hkd.cell (HSRC3.out j u hu) (fun f => f)) (by omega)
  obtain ⟨ao4, cap4, hv4⟩ := row_slice ho4
  obtain ⟨n4, hn4⟩ : ∃ k, k = (zs ++ ys).length := ⟨_, rfl⟩
  rw [← hn4] at hv4
  subst hv4
  have HN4 := hid_of hn4
  clear hn4
  have HA4 := hid_of hr4
  have hbx4 : w4.heap[q]? = some (.cells #[.string a1, .string a2, .bool false, .slice ao1 p cap1] 99 (0, 0)) := (hg4.block q (by have := heap_lt HW3.out; have := hkd.size; omega) (fun e => HQ1.out e.symm)).trans ((hkd.block q (heap_lt HW3.out) (fun f => f)).trans HW3.out)
  have f4 := frozen_block w4 q 3 _ _ hbx4
  have c4 : w4.cell? ⟨q, 3, none⟩ = some (.slice ao1 p cap1) := (cell_block _ _ 3 _ _ _ hbx4).trans rfl
  have HE : Hid (Laid w q a1 a2 (.slice ao0 n cap0) (layB xs p ys) (w4.setCell ⟨q, 3, none⟩ (.slice ao4 n4 cap4))) := by
    have hq4 := not_box (by decide) hbx4 ho4
    refine ⟨.slice ao4 n4 cap4, set_block w4 q 3 _ 99 (0, 0) hbx4 _, ?_, ?_, ?_⟩
    · rw [← HZS.out]
      exact (kept_set w4 ⟨q, 3, none⟩ (.slice ao4 n4 cap4)).ownsRow ho4 (fun g hg e => hq4 (by rw [hg]; exact congrArg some e))
    · have hs := HK3.out.size
      have hs2 := hkd.size
      rcases hb4 with e | e
      · rw [e]
        rcases HB1.out with e1 | e1
        · exact .inl e1
        · exact .inr ⟨_, e1, Nat.le_refl _⟩
      · exact .inr ⟨_, e, by omega⟩
    · refine Kept.setCell (p := ⟨q, 3, none⟩) ?_ (.inr (.inl rfl)) _
      refine (HK3.out.trans (hkd.mono (fun _ _ f => f.elim))).step (grown_kept (S := fun k => (Value.slice ao1 p cap1).ownBlock = some k) hg4 (fun k h => h)) (fun k hk e => ?_)
      rcases HB1.out with e1 | e1
      · exact .inr (e1 ▸ e)
      · rw [e1] at e
        cases e
        omega
  clear hr4 ho4 hg4 hb4 hkd hbx4 HO3 HSRC3
  refine wp_region_held_drew (S := fun w' => True) (by kernel_rfl) trivial (fun hHeld => ?_)
  iterate 4
    refine tkn (v := ?_) 0 rfl ?_ ?_; rotate_left 1
    · intro w hSw; go_simp; try with_reducible rfl
    try simp only [Act.put, tdy]
  iterate 3
    refine tkn (v := ?_) 5 rfl ?_ ?_; rotate_left 1
    · intro w hSw; go_simp; try with_reducible rfl
    try simp only [Act.put, tdy]
  refine wpAnyH_ready (rs := [4]) (by kernel_rfl) (by simp) ?_
  refine AllReadyH.cons rfl (fun K hK => ?_) AllReadyH.nil
  go_simp
  refine hK.out _ _ trivial (fun hHeld => ?_)
  clear hK K
  try simp only [Act.put, tdy]
  refine wpAnyH_ready (rs := [8]) (by kernel_rfl) (by simp) ?_
  refine AllReadyH.cons rfl (fun K hK => ?_) AllReadyH.nil
  refine step_app rfl (.tmp 38) (.tmp 41) 33 33 rfl _ _ rfl rfl (.slice ao4 n4 cap4) w4 HA4.out ?_
  refine hK.out _ _ trivial (fun hHeld => ?_)
  clear hK K
  try simp only [Act.put, tdy]
  iterate 2
    refine tkn (v := ?_) 9 rfl ?_ ?_; rotate_left 1
    · intro w hSw; go_simp; try with_reducible rfl
    try simp only [Act.put, tdy]
  refine wpAnyH_ready (rs := [11]) (by kernel_rfl) (by simp) ?_
  refine AllReadyH.cons rfl (fun K hK => ?_) AllReadyH.nil
  go_simp
  refine hK.out _ _ trivial (fun hHeld => ?_)
  clear hK K
  try simp only [Act.put, tdy]
  refine wpAnyH_done (by kernel_rfl) ?_ _
  clear hHeld
  go_wp2
  exact bodyPost_end (results_none rfl _ _ _) rfl ⟨rfl, HE.out⟩
set_option maxHeartbeats 4000000 in
theorem lay_end (q : Nat) (a1 a2 : ByteArray) (dv : Value) (xs ys : List Int) (p ab ao c : Nat) (w : World) (hbx : w.heap[q]? = some (.cells #[.string a1, .string a2, .bool false, dv] 99 (0, 0))) (hown : w.ownsRow 0 5 1 dv xs.length (ints xs)) (hsrc : ∀ j u, (ints ys)[j]? = some u → w.cell? ⟨ab, ao + j, none⟩ = some u) (hyc : ys.length ≤ c) (h0 : 0 < ys.length) (hab : dv.ownBlock ≠ some ab) (hne : ab ≠ q) (hlim : p + ys.length ≤ 1048576) (hxl : xs.length ≤ 1048576) (hlt : xs.length = p) :
    Calls Try.prog 70 #[.pointer (some ⟨q, 0, none⟩), .int .i64 p, .slice (some ⟨ab, ao, none⟩) ys.length c] w fun e w' => e = .returned (.tuple #[]) ∧ Laid w q a1 a2 dv (layB xs p ys) w' := by
  obtain ⟨ao1, cap1, rfl⟩ := row_slice hown
  rw [hlt] at hown hbx
  have hq1 := not_box (by decide) hbx hown
  obtain ⟨ao2, _, _, hsl⟩ := slice_from ao1 p cap1 p (Nat.le_refl _)
  obtain ⟨ao5, h5, _, hsl5⟩ := slice_from (some ⟨ab, ao, none⟩) ys.length c 0 (Nat.zero_le _)
  obtain rfl := h5 ab ao rfl (by omega)
  have hsl6 : ∀ W, (Instr.slice 33 (.slice (some ⟨ab, ao, none⟩) ys.length c) (some (.int .i64 0)) none none).run Try.prog W = .ok (.slice (some ⟨ab, ao, none⟩) ys.length c) W := fun W => by simpa using hsl5 W
  clear hsl5 h5
  have hcp := run_copy_none (P := Try.prog) w 33 33 3 5 ao2 (some ⟨ab, ao, none⟩) (p - p) (cap1 - p) ys.length c Try.underlying33 (by obtain ⟨i, hi, hz, hs, hby⟩ := info_parts info5; rw [hi]; simp [hs]) (by simp)
  rw [Nat.sub_self] at hcp
  have c3 : w.cell? ⟨q, 3, none⟩ = some (.slice ao1 p cap1) := (cell_block _ _ 3 _ _ _ hbx).trans rfl
  have HSRC3 := hid_of hsrc
  have HO3 : Hid (w.ownsRow 0 5 1 (.slice ao1 p cap1) xs.length (ints xs)) := by
    show _
    rw [hlt]
    exact hown
  have HW3 := hid_of hbx
  have HZS : Hid (xs ++ ys = layB xs p ys) := by
    show _ = _
    rw [layB, hlt, Nat.sub_self, List.replicate_zero, List.append_nil, List.take_of_length_le (by omega), List.drop_of_length_le (by omega), List.append_nil]
  have HQ1 := hid_of hq1
  have HLT := hid_of hlt
  rw [hlt] at hab
  rw [hlt]
  clear hown hbx hq1 hsrc hlt
  generalize hM : ys.length = m at *
  have HM := hid_of hM
  have wr1 : IntKind.i64.wrap ((p : Int) - (p : Int)) = 0 := by rw [IntKind.wrap_i64]; omega
  clear hM
  go_enter Try.func70, Try.ntmps70
  go_upto_region 4 with fail
  clear hcp hsl wr1
  have hkd : Kept (fun _ => False) w w.drew := (Kept.refl _ w).drew
  obtain ⟨v4, w4, hr4, ho4, hg4, hb4⟩ := app_row w.drew (.slice ao1 p cap1) xs ys (hkd.ownsRow HO3.out (fun _ _ f => f)) ab ao m c HM.out (fun j u hu => hkd.cell (HSRC3.out j u hu) (fun f => f)) (by omega)
  obtain ⟨ao4, cap4, hv4⟩ := row_slice ho4
  obtain ⟨n4, hn4⟩ : ∃ k, k = (xs ++ ys).length := ⟨_, rfl⟩
  rw [← hn4] at hv4
  subst hv4
  have HN4 := hid_of hn4
  clear hn4
  have HA4 := hid_of hr4
  have hbx4 : w4.heap[q]? = some (.cells #[.string a1, .string a2, .bool false, .slice ao1 p cap1] 99 (0, 0)) := (hg4.block q (by have := heap_lt HW3.out; have := hkd.size; omega) (fun e => HQ1.out e.symm)).trans ((hkd.block q (heap_lt HW3.out) (fun f => f)).trans HW3.out)
  have f4 := frozen_block w4 q 3 _ _ hbx4
  have c4 : w4.cell? ⟨q, 3, none⟩ = some (.slice ao1 p cap1) := (cell_block _ _ 3 _ _ _ hbx4).trans rfl
  have HE : Hid (Laid w q a1 a2 (.slice ao1 p cap1) (layB xs p ys) (w4.setCell ⟨q, 3, none⟩ (.slice ao4 n4 cap4))) := by
    have hq4 := not_box (by decide) hbx4 ho4
    refine ⟨.slice ao4 n4 cap4, set_block w4 q 3 _ 99 (0, 0) hbx4 _, ?_, ?_, ?_⟩
    · rw [← HZS.out]
      exact (kept_set w4 ⟨q, 3, none⟩ (.slice ao4 n4 cap4)).ownsRow ho4 (fun g hg e => hq4 (by rw [hg]; exact congrArg some e))
    · have hs2 := hkd.size
      rcases hb4 with e | e
      · exact .inl e
      · exact .inr ⟨_, e, by omega⟩
    · refine Kept.setCell (p := ⟨q, 3, none⟩) ?_ (.inr (.inl rfl)) _
      exact (hkd.mono (fun _ _ f => f.elim)).trans (grown_kept hg4 (fun k h => .inr h))
  clear hr4 ho4 hg4 hb4 hkd hbx4 HO3 HSRC3
  refine wp_region_held_drew (S := fun w' => True) (by kernel_rfl) trivial (fun hHeld => ?_)
  iterate 4
    refine tkn (v := ?_) 0 rfl ?_ ?_; rotate_left 1
    · intro w hSw; go_simp; try with_reducible rfl
    try simp only [Act.put, tdy]
  iterate 3
    refine tkn (v := ?_) 5 rfl ?_ ?_; rotate_left 1
    · intro w hSw; go_simp; try with_reducible rfl
    try simp only [Act.put, tdy]
  refine wpAnyH_ready (rs := [4]) (by kernel_rfl) (by simp) ?_
  refine AllReadyH.cons rfl (fun K hK => ?_) AllReadyH.nil
  go_simp
  refine hK.out _ _ trivial (fun hHeld => ?_)
  clear hK K
  try simp only [Act.put, tdy]
  refine wpAnyH_ready (rs := [8]) (by kernel_rfl) (by simp) ?_
  refine AllReadyH.cons rfl (fun K hK => ?_) AllReadyH.nil
  refine step_app rfl (.tmp 38) (.tmp 41) 33 33 rfl _ _ rfl rfl (.slice ao4 n4 cap4) w4 HA4.out ?_
  refine hK.out _ _ trivial (fun hHeld => ?_)
  clear hK K
  try simp only [Act.put, tdy]
  iterate 2
    refine tkn (v := ?_) 9 rfl ?_ ?_; rotate_left 1
    · intro w hSw; go_simp; try with_reducible rfl
    try simp only [Act.put, tdy]
  refine wpAnyH_ready (rs := [11]) (by kernel_rfl) (by simp) ?_
  refine AllReadyH.cons rfl (fun K hK => ?_) AllReadyH.nil
  go_simp
  refine hK.out _ _ trivial (fun hHeld => ?_)
  clear hK K
  try simp only [Act.put, tdy]
  refine wpAnyH_done (by kernel_rfl) ?_ _
  clear hHeld
  go_wp2
  exact bodyPost_end (results_none rfl _ _ _) rfl ⟨rfl, HE.out⟩
set_option maxHeartbeats 4000000 in
theorem lay_in (q : Nat) (a1 a2 : ByteArray) (dv : Value) (xs ys : List Int) (p ab ao c : Nat) (w : World) (hbx : w.heap[q]? = some (.cells #[.string a1, .string a2, .bool false, dv] 99 (0, 0))) (hown : w.ownsRow 0 5 1 dv xs.length (ints xs)) (hsrc : ∀ j u, (ints ys)[j]? = some u → w.cell? ⟨ab, ao + j, none⟩ = some u) (hyc : ys.length ≤ c) (h0 : 0 < ys.length) (hab : dv.ownBlock ≠ some ab) (hne : ab ≠ q) (hlim : p + ys.length ≤ 1048576) (hxl : xs.length ≤ 1048576) (hlt : p < xs.length) :
    Calls Try.prog 70 #[.pointer (some ⟨q, 0, none⟩), .int .i64 p, .slice (some ⟨ab, ao, none⟩) ys.length c] w fun e w' => e = .returned (.tuple #[]) ∧ Laid w q a1 a2 dv (layB xs p ys) w' := by
  obtain ⟨ao1, cap1, rfl⟩ := row_slice hown
  have hq1 := not_box (by decide) hbx hown
  obtain ⟨g, cur, rfl, hgb, hcur, hcs, hcl⟩ : ∃ g cur, ao1 = some ⟨g, 0, none⟩ ∧ w.heap[g]? = some (.cells cur 5 (0, 0)) ∧ cur.toList.take xs.length = ints xs ∧ cur.size = cap1 ∧ xs.length ≤ cap1 := by
    obtain ⟨_, ⟨h, h'⟩ | ⟨g, cap, cur, hv, _, h1, h2, _, h4, h5⟩⟩ := hown
    · omega
    · injection hv with e1 _ e3
      subst e3
      exact ⟨g, cur, e1, h1, by simpa using h5, by simpa using h4, h2⟩
  obtain ⟨ao2, h2, _, hsl⟩ := slice_from (some ⟨g, 0, none⟩) xs.length cap1 p (by omega)
  obtain rfl := h2 g 0 rfl (by omega)
  obtain ⟨k, hk⟩ : ∃ k, k = min ys.length (xs.length - p) := ⟨_, rfl⟩
  have hky : k ≤ ys.length := by omega
  have hkx : p + k ≤ xs.length := by omega
  have hgab : g ≠ ab := fun e => hab (by rw [← e]; rfl)
  have hcp := run_copy_row (P := Try.prog) w 33 33 3 5 g (0 + p) (xs.length - p) (cap1 - p) ⟨ab, ao, none⟩ ys.length c cur 5 ((ints ys).take k) Try.underlying33 (by obtain ⟨i, hi, hz, hs, hby⟩ := info_parts info5; rw [hi]; simp [hs]) hgb (by rw [List.length_take, ints_len]; show min k _ = min _ _; omega) (fun j v hv => by rw [Addr.add_lit]; rw [List.getElem?_take] at hv; split at hv; exact hsrc j v hv; cases hv) (by rw [List.length_take, ints_len]; omega) (fun v hv => ints_one ys v (List.mem_of_mem_take hv))
  have hlk : ((ints ys).take k).length = k := by rw [List.length_take, ints_len]; omega
  rw [hlk, Nat.zero_add] at hcp
  obtain ⟨ao5, h5, h5', hsl5⟩ := slice_from (some ⟨ab, ao, none⟩) ys.length c k hky
  obtain ⟨o5, ho5⟩ := h5' ab ao rfl
  have ho5e : k < c → o5 = ao + k := fun h => by
    have := h5 ab ao rfl h
    rw [this] at ho5
    injection ho5 with e
    injection e with _ e _
    exact e.symm
  subst ho5
  clear h5 h5'
  have hW3 : (w.setRow g (cur.toList.take p ++ (ints ys).take k ++ cur.toList.drop (p + k)).toArray).heap[g]? = some (.cells (cur.toList.take p ++ (ints ys).take k ++ cur.toList.drop (p + k)).toArray 5 (0, 0)) := setRow_heap w g cur _ 5 _ hgb
  have hK3 : Kept (fun q => q = g) w (w.setRow g (cur.toList.take p ++ (ints ys).take k ++ cur.toList.drop (p + k)).toArray) := Kept.setRow (S := fun q => q = g) (Kept.refl _ w) (.inr rfl) _
  obtain ⟨zs, hzs⟩ : ∃ zs, zs = xs.take p ++ ys.take k ++ xs.drop (p + k) := ⟨_, rfl⟩
  have hzl : zs.length = xs.length := by rw [hzs]; simp; omega
  have HO3 : Hid ((w.setRow g (cur.toList.take p ++ (ints ys).take k ++ cur.toList.drop (p + k)).toArray).ownsRow 0 5 1 (.slice (some ⟨g, 0, none⟩) xs.length cap1) zs.length (ints zs)) := by
    refine ⟨by rw [ints_len, Nat.mul_one], .inr ⟨g, cap1, _, by rw [hzl], Nat.zero_le _, hW3, by omega, ?_, ?_, ?_⟩⟩
    · obtain ⟨_, ⟨h, h'⟩ | ⟨g', cap, cur', hv, _, _, _, h3, _, _⟩⟩ := hown
      · omega
      · injection hv with _ _ e3
        rw [e3]
        exact h3
    · have hcl2 : cur.toList.length = cap1 := by simpa using hcs
      simp [ints_len, hcl2]
      omega
    · have hcl2 : cur.toList.length = cap1 := by simpa using hcs
      have e1 : cur.toList.take p = (ints xs).take p := by rw [← hcur, List.take_take]; congr 1; omega
      have e2 : (cur.toList.drop (p + k)).take (xs.length - (p + k)) = (ints xs).drop (p + k) := by rw [← hcur, List.drop_take]
      rw [hzl, Nat.mul_one, List.take_append, List.take_of_length_le (by rw [List.length_append, List.length_take, List.length_take, ints_len]; omega), e1]
      have hl : ((ints xs).take p ++ (ints ys).take k).length = p + k := by rw [List.length_append, List.length_take, List.length_take, ints_len, ints_len]; omega
      rw [hl, e2, hzs]
      unfold ints
      simp [List.map_take, List.map_drop]
  have hbx3 : (w.setRow g (cur.toList.take p ++ (ints ys).take k ++ cur.toList.drop (p + k)).toArray).heap[q]? = some (.cells #[.string a1, .string a2, .bool false, .slice (some ⟨g, 0, none⟩) xs.length cap1] 99 (0, 0)) := (hK3.block q (heap_lt hbx) (fun e => hq1 (by rw [e]; rfl))).trans hbx
  have HSRC3 : Hid (∀ j u, (ints (ys.drop k))[j]? = some u → (w.setRow g (cur.toList.take p ++ (ints ys).take k ++ cur.toList.drop (p + k)).toArray).cell? ⟨ab, o5 + j, none⟩ = some u) := fun j u hu => by
    have hjl : j < ys.length - k := by
      have := (List.getElem?_eq_some_iff.1 hu).1
      rw [ints_len, List.length_drop] at this
      exact this
    rw [ho5e (by omega)]
    have : (ints ys)[k + j]? = some u := by
      unfold ints at hu ⊢
      rw [List.map_drop, List.getElem?_drop] at hu
      exact hu
    have h9 := hK3.cell (hsrc (k + j) u this) (fun e => hgab e.symm)
    rw [show ao + k + j = ao + (k + j) by omega]
    exact h9
  have c0 : w.cell? ⟨q, 3, none⟩ = some (.slice (some ⟨g, 0, none⟩) xs.length cap1) := (cell_block _ _ 3 _ _ _ hbx).trans rfl
  have c3 : (w.setRow g (cur.toList.take p ++ (ints ys).take k ++ cur.toList.drop (p + k)).toArray).cell? ⟨q, 3, none⟩ = some (.slice (some ⟨g, 0, none⟩) xs.length cap1) := (cell_block _ _ 3 _ _ _ hbx3).trans rfl
  have HZS : Hid (zs ++ ys.drop k = layB xs p ys) := by
    show _ = _
    rw [hzs, layB, show p - xs.length = 0 by omega, List.replicate_zero, List.append_nil]
    by_cases hf : ys.length ≤ xs.length - p
    · rw [show k = ys.length by omega, List.take_length, List.drop_length, List.append_nil]
    · rw [List.drop_of_length_le (i := p + k) (by omega), List.drop_of_length_le (i := p + ys.length) (by omega), List.append_nil, List.append_nil, List.append_assoc, List.take_append_drop]
  have HW3 := hid_of hbx3
  have HQ1 := hid_of hq1
  have HK3 := hid_of hK3
  have HZL := hid_of hzl
  have HMD : Hid ((ys.drop k).length = ys.length - k) := List.length_drop
  have wr1 : IntKind.i64.wrap ((p : Int) - (xs.length : Int)) = (p : Int) - (xs.length : Int) := by rw [IntKind.wrap_i64]; omega
  have hng : ¬ ((0 : Int) < (p : Int) - (xs.length : Int)) := by omega
  generalize w.setRow g (cur.toList.take p ++ (ints ys).take k ++ cur.toList.drop (p + k)).toArray = W3 at *
  generalize xs.length = n at *
  clear hown hbx hbx3 hq1 hsrc hK3 hW3 hcur hgb hcs hk hlk hzs hzl ho5e
  generalize hM : ys.length = m at *
  have HM := hid_of hM
  clear hM
  have HLT := hid_of hlt
  go_enter Try.func70, Try.ntmps70
  go_upto_region 4 with fail
  clear hcp hsl wr1 hng c0
  have hkd : Kept (fun _ => False) W3 W3.drew := (Kept.refl _ W3).drew
  obtain ⟨v4, w4, hr4, ho4, hg4, hb4⟩ := app_row W3.drew (.slice (some ⟨g, 0, none⟩) n cap1) zs (ys.drop k) (hkd.ownsRow HO3.out (fun _ _ f => f)) ab o5 (m - k) (c - k) HMD.out (fun j u hu => hkd.cell (HSRC3.out j u hu) (fun f => f)) (by rw [HZL.out]; omega)
  obtain ⟨ao4, cap4, hv4⟩ := row_slice ho4
  obtain ⟨n4, hn4⟩ : ∃ k', k' = (zs ++ ys.drop k).length := ⟨_, rfl⟩
  rw [← hn4] at hv4
  subst hv4
  have HN4 := hid_of hn4
  clear hn4
  have HA4 := hid_of hr4
  have hbx4 : w4.heap[q]? = some (.cells #[.string a1, .string a2, .bool false, .slice (some ⟨g, 0, none⟩) n cap1] 99 (0, 0)) := (hg4.block q (by have := heap_lt HW3.out; have := hkd.size; omega) (fun e => HQ1.out e.symm)).trans ((hkd.block q (heap_lt HW3.out) (fun f => f)).trans HW3.out)
  have f4 := frozen_block w4 q 3 _ _ hbx4
  have c4 : w4.cell? ⟨q, 3, none⟩ = some (.slice (some ⟨g, 0, none⟩) n cap1) := (cell_block _ _ 3 _ _ _ hbx4).trans rfl
  have HE : Hid (Laid w q a1 a2 (.slice (some ⟨g, 0, none⟩) n cap1) (layB xs p ys) (w4.setCell ⟨q, 3, none⟩ (.slice ao4 n4 cap4))) := by
    have hq4 := not_box (by decide) hbx4 ho4
    refine ⟨.slice ao4 n4 cap4, set_block w4 q 3 _ 99 (0, 0) hbx4 _, ?_, ?_, ?_⟩
    · rw [← HZS.out]
      exact (kept_set w4 ⟨q, 3, none⟩ (.slice ao4 n4 cap4)).ownsRow ho4 (fun g hg e => hq4 (by rw [hg]; exact congrArg some e))
    · have hs2 := hkd.size
      have hs3 := HK3.out.size
      rcases hb4 with e | e
      · exact .inl e
      · exact .inr ⟨_, e, by omega⟩
    · refine Kept.setCell (p := ⟨q, 3, none⟩) ?_ (.inr (.inl rfl)) _
      exact ((HK3.out.mono (fun k _ e => .inr (by rw [e]; rfl))).trans (hkd.mono (fun _ _ f => f.elim))).trans (grown_kept hg4 (fun k h => .inr h))
  clear hr4 ho4 hg4 hb4 hkd hbx4 HO3 HSRC3
  refine wp_region_held_drew (S := fun w' => True) (by kernel_rfl) trivial (fun hHeld => ?_)
  iterate 4
    refine tkn (v := ?_) 0 rfl ?_ ?_; rotate_left 1
    · intro w hSw; go_simp; try with_reducible rfl
    try simp only [Act.put, tdy]
  iterate 3
    refine tkn (v := ?_) 5 rfl ?_ ?_; rotate_left 1
    · intro w hSw; go_simp; try with_reducible rfl
    try simp only [Act.put, tdy]
  refine wpAnyH_ready (rs := [4]) (by kernel_rfl) (by simp) ?_
  refine AllReadyH.cons rfl (fun K hK => ?_) AllReadyH.nil
  go_simp
  refine hK.out _ _ trivial (fun hHeld => ?_)
  clear hK K
  try simp only [Act.put, tdy]
  refine wpAnyH_ready (rs := [8]) (by kernel_rfl) (by simp) ?_
  refine AllReadyH.cons rfl (fun K hK => ?_) AllReadyH.nil
  refine step_app rfl (.tmp 38) (.tmp 41) 33 33 rfl _ _ rfl rfl (.slice ao4 n4 cap4) w4 HA4.out ?_
  refine hK.out _ _ trivial (fun hHeld => ?_)
  clear hK K
  try simp only [Act.put, tdy]
  iterate 2
    refine tkn (v := ?_) 9 rfl ?_ ?_; rotate_left 1
    · intro w hSw; go_simp; try with_reducible rfl
    try simp only [Act.put, tdy]
  refine wpAnyH_ready (rs := [11]) (by kernel_rfl) (by simp) ?_
  refine AllReadyH.cons rfl (fun K hK => ?_) AllReadyH.nil
  go_simp
  refine hK.out _ _ trivial (fun hHeld => ?_)
  clear hK K
  try simp only [Act.put, tdy]
  refine wpAnyH_done (by kernel_rfl) ?_ _
  clear hHeld
  go_wp2
  exact bodyPost_end (results_none rfl _ _ _) rfl ⟨rfl, HE.out⟩
theorem lay_any (q : Nat) (a1 a2 : ByteArray) (dv : Value) (xs ys : List Int) (p ab ao c : Nat) (w : World) (hbx : w.heap[q]? = some (.cells #[.string a1, .string a2, .bool false, dv] 99 (0, 0))) (hown : w.ownsRow 0 5 1 dv xs.length (ints xs)) (hsrc : ∀ j u, (ints ys)[j]? = some u → w.cell? ⟨ab, ao + j, none⟩ = some u) (hyc : ys.length ≤ c) (h0 : 0 < ys.length) (hab : dv.ownBlock ≠ some ab) (hne : ab ≠ q) (hlim : p + ys.length ≤ 1048576) (hxl : xs.length ≤ 1048576) :
    Calls Try.prog 70 #[.pointer (some ⟨q, 0, none⟩), .int .i64 p, .slice (some ⟨ab, ao, none⟩) ys.length c] w fun e w' => e = .returned (.tuple #[]) ∧ Laid w q a1 a2 dv (layB xs p ys) w' := by
  rcases Nat.lt_trichotomy xs.length p with h | h | h
  · exact lay_gap q a1 a2 dv xs ys p ab ao c w hbx hown hsrc hyc h0 hab hne hlim hxl h
  · exact lay_end q a1 a2 dv xs ys p ab ao c w hbx hown hsrc hyc h0 hab hne hlim hxl h
  · exact lay_in q a1 a2 dv xs ys p ab ao c w hbx hown hsrc hyc h0 hab hne hlim hxl h
end Go.Proofs.Ytmkfjdfpcjkmnaa

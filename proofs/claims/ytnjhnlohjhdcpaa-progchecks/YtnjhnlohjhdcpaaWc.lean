/-
  ProgChecks and ProgEncodes: the walks.
-/
import Derived.Test.YtnjhnlohjhdcpaaLr
import Derived.Test.YtnjhnlohjhdcpaaQc
import Derived.Test.YtnjhnlohjhdcpaaQf
namespace Go.Proofs.Ytnjhnlohjhdcpaa
open Go.ChangeShapes Go.WideShapes Go.ChangeAt Go.RowKit Go.Deep
set_option linter.unusedVariables false
set_option linter.unusedSimpArgs false
set_option maxRecDepth 100000

set_option maxHeartbeats 8000000 in
theorem checks_walk (v : Value) (p : PG) (w : World) (B : Nat) (h : PgIs w B v p) (hB : B ≤ w.heap.size) (ho : p.Ok) : Calls Try.prog 3 #[v] w fun e w' => e = .returned (.bool true) ∧ Kept (fun _ => False) w w' := by
  have hpg := h
  obtain ⟨dv, fv, rfl, hd, hdl, hf⟩ := h
  obtain ⟨dao, dc, rfl⟩ := hd.shape
  obtain ⟨fao, fc, rfl⟩ := hf.shape
  obtain ⟨nd, hnd⟩ : ∃ n, n = p.data.length := ⟨_, rfl⟩
  obtain ⟨nf, hnf⟩ : ∃ n, n = p.fns.length := ⟨_, rfl⟩
  obtain ⟨mem, hmem⟩ : ∃ m, m = p.mem := ⟨_, rfl⟩
  have hlv : ∀ gd gl, lentV p gd gl = .agg #[.int .i64 mem, .slice (some ⟨gd, 0, none⟩) nd (nd + 5), .slice (some ⟨gl, 0, none⟩) nf (nf + 2)] := fun gd gl => by unfold lentV; rw [← hmem, ← hnd, ← hnf]
  rw [← hmem, ← hnd, ← hnf] at hpg ⊢
  have hkA : Kept (fun _ => False) w (w.alloc (.cells #[.int .i64 mem, .slice dao nd dc, .slice fao nf fc] 25)) := (Kept.refl _ _).alloc _
  have hbA := heap_alloc_new w (.cells #[.int .i64 mem, .slice dao nd dc, .slice fao nf fc] 25)
  have HPG := hid_of (hpg.kept hkA (fun _ _ f => f))
  have HB0 := hid_of (Nat.le_trans hB hkA.size)
  have HO := hid_of ho
  have HKA := hid_of hkA
  have HBA := hid_of hbA
  have HLV := hid_of hlv
  clear hpg hd hdl hf ho hnf hnd hmem hB hkA hbA hlv
  go_enter Try.func3, Try.ntmps3
  go_wp2_with fail
  generalize w.alloc (.cells #[.int .i64 mem, .slice dao nd dc, .slice fao nf fc] 25) = w0 at *
  generalize w.heap.size = gb at *
  refine (known_any w0).mono ?_
  rintro e w1 ⟨rfl, hk1⟩
  have HPG1 := hid_of (HPG.out.kept hk1 (fun _ _ f => f))
  have HB1 := hid_of (box_kept hk1 HBA.out (fun f => f))
  have HK1 := hid_of (HKA.out.trans hk1)
  have HS1 := hid_of (Nat.le_trans HB0.out hk1.size)
  clear hk1 HPG HBA HKA HB0
  have c0 := cell_block _ gb 0 _ _ _ HB1.out
  have c1 := cell_block _ gb 1 _ _ _ HB1.out
  have c2 := cell_block _ gb 2 _ _ _ HB1.out
  have HLD := hid_of (lend_p _ p w1 B HPG1.out HS1.out HO.out)
  go_wp2_with fail
  refine HLD.out.mono ?_
  rintro e w2 ⟨gd, gl, cgs, rfl, hlp, hk2, _⟩
  rw [HLV.out gd gl]
  have hkM : Kept (fun _ => False) w2 (w2.alloc (.cells #[.int .i64 mem, .slice (some ⟨gd, 0, none⟩) nd (nd + 5), .slice (some ⟨gl, 0, none⟩) nf (nf + 2)] 25)) := (Kept.refl _ _).alloc _
  have HBM := hid_of (heap_alloc_new w2 (.cells #[.int .i64 mem, .slice (some ⟨gd, 0, none⟩) nd (nd + 5), .slice (some ⟨gl, 0, none⟩) nf (nf + 2)] 25))
  have HLP := hid_of (hlp.same hkM)
  have HPG3 := hid_of (HPG1.out.kept (hk2.trans hkM) (fun _ _ f => f))
  have HB3 := hid_of (box_kept (hk2.trans hkM) HB1.out (fun f => f))
  have HK3 := hid_of (HK1.out.trans (hk2.trans hkM))
  have HS3 := hid_of (Nat.le_trans HS1.out (hk2.trans hkM).size)
  clear hlp hk2 hkM HLD HPG1 HB1 HK1 HS1 c0 c1 c2
  go_upto_region 4 with fail
  generalize w2.alloc (.cells #[.int .i64 mem, .slice (some ⟨gd, 0, none⟩) nd (nd + 5), .slice (some ⟨gl, 0, none⟩) nf (nf + 2)] 25) = w3 at *
  generalize w2.heap.size = gm at *
  have HM0 := hid_of (show w3.cell? ⟨gm, 0, none⟩ = some (.int .i64 mem) from cell_block _ gm 0 _ _ _ HBM.out)
  have HM1 := hid_of (show w3.cell? ⟨gm, 1, none⟩ = some (.slice (some ⟨gd, 0, none⟩) nd (nd + 5)) from cell_block _ gm 1 _ _ _ HBM.out)
  have HM2 := hid_of (show w3.cell? ⟨gm, 2, none⟩ = some (.slice (some ⟨gl, 0, none⟩) nf (nf + 2)) from cell_block _ gm 2 _ _ _ HBM.out)
  have HP0 := hid_of (show w3.cell? ⟨gb, 0, none⟩ = some (.int .i64 mem) from cell_block _ gb 0 _ _ _ HB3.out)
  have HP1 := hid_of (show w3.cell? ⟨gb, 1, none⟩ = some (.slice dao nd dc) from cell_block _ gb 1 _ _ _ HB3.out)
  have HP2 := hid_of (show w3.cell? ⟨gb, 2, none⟩ = some (.slice fao nf fc) from cell_block _ gb 2 _ _ _ HB3.out)
  have HPL : Hid (∀ W, Kept (fun _ => False) w3 W → PgIs W W.heap.size (.agg #[.int .i64 mem, .slice (some ⟨gd, 0, none⟩) nd (nd + 5), .slice (some ⟨gl, 0, none⟩) nf (nf + 2)]) p) := fun W hW => by rw [← HLV.out gd gl]; exact (HLP.out.same hW).pg
  have HC3 : Hid (∀ W, Kept (fun _ => False) w3 W → Calls Try.prog 13 #[.agg #[.int .i64 mem, .slice (some ⟨gd, 0, none⟩) nd (nd + 5), .slice (some ⟨gl, 0, none⟩) nf (nf + 2)], .agg #[.int .i64 mem, .slice dao nd dc, .slice fao nf fc]] W fun e w' => e = .returned (.bool true) ∧ Kept (fun _ => False) W w') := fun W hW => by
    rw [← HLV.out gd gl]
    exact held_p gd gl cgs _ p W B (HLP.out.same hW) (HPG3.out.kept hW (fun _ _ f => f)) (Nat.le_trans HS3.out hW.size) HO.out
  obtain ⟨ce, hce⟩ : ∃ c, c = checkP p := ⟨_, rfl⟩
  have HC1 : Hid (∀ W, Kept (fun _ => False) w3 W → Calls Try.prog 11 #[.agg #[.int .i64 mem, .slice (some ⟨gd, 0, none⟩) nd (nd + 5), .slice (some ⟨gl, 0, none⟩) nf (nf + 2)]] W fun e w' => e = .returned (.int .i64 ce) ∧ Kept (fun _ => False) W w') := fun W hW => by
    rw [hce]
    exact check_p _ p W W.heap.size (HPL.out W hW) (Nat.le_refl _) HO.out
  have HC2 : Hid (∀ W, Kept (fun _ => False) w3 W → Calls Try.prog 12 #[.agg #[.int .i64 mem, .slice dao nd dc, .slice fao nf fc]] W fun e w' => e = .returned (.int .i64 ce) ∧ Kept (fun _ => False) W w') := fun W hW => by
    rw [hce]
    exact rcheck_any _ p W B (HPG3.out.kept hW (fun _ _ f => f)) (Nat.le_trans HS3.out hW.size) HO.out
  clear hce
  refine wp_region_held_drew (S := fun w' => Kept (fun _ => False) w3 w') (by kernel_rfl) (Kept.refl _ _).drew (fun hHeld => ?_)
  refine wpAnyH_take (i := 0) (v := ?_) rfl (by kernel_rfl) (by kernel_rfl) (by kernel_rfl) (fun _ _ _ h => h) (Or.inl ⟨by rfl, ?_⟩) (by assumption) ?_
  rotate_left 1
  · intro w hSw
    have q0 := Kept.cell hSw HM0.out (fun f => f)
    have q1 := Kept.cell hSw HM1.out (fun f => f)
    have q2 := Kept.cell hSw HM2.out (fun f => f)
    go_simp
    try with_reducible rfl
  try simp only [Act.put, List.getElem_toArray, List.getElem_cons_zero, List.getElem_cons_succ, List.setIfInBounds_toArray, List.set_cons_zero, List.set_cons_succ]
  refine wpAnyH_take (i := 2) (v := ?_) rfl (by kernel_rfl) (by kernel_rfl) (by kernel_rfl) (fun _ _ _ h => h) (Or.inl ⟨by rfl, ?_⟩) (by assumption) ?_
  rotate_left 1
  · intro w hSw
    have q0 := Kept.cell hSw HP0.out (fun f => f)
    have q1 := Kept.cell hSw HP1.out (fun f => f)
    have q2 := Kept.cell hSw HP2.out (fun f => f)
    go_simp
    try with_reducible rfl
  try simp only [Act.put, List.getElem_toArray, List.getElem_cons_zero, List.getElem_cons_succ, List.setIfInBounds_toArray, List.set_cons_zero, List.set_cons_succ]
  refine wpAnyH_ready (rs := [1]) (by kernel_rfl) (by simp) ?_
  refine AllReadyH.cons rfl (fun K hK => ?_) AllReadyH.nil
  go_simp
  refine (HC1.out _ hHeld).mono ?_
  rintro e wn ⟨rfl, hkn⟩
  refine hK.out _ _ (Kept.trans hHeld hkn) (fun hHeld => ?_)
  clear hK K hkn
  try simp only [Act.put, List.getElem_toArray, List.getElem_cons_zero, List.getElem_cons_succ, List.setIfInBounds_toArray, List.set_cons_zero, List.set_cons_succ]
  refine wpAnyH_ready (rs := [3]) (by kernel_rfl) (by simp) ?_
  refine AllReadyH.cons rfl (fun K hK => ?_) AllReadyH.nil
  go_simp
  refine (HC2.out _ hHeld).mono ?_
  rintro e wn ⟨rfl, hkn⟩
  refine hK.out _ _ (Kept.trans hHeld hkn) (fun hHeld => ?_)
  clear hK K hkn
  try simp only [Act.put, List.getElem_toArray, List.getElem_cons_zero, List.getElem_cons_succ, List.setIfInBounds_toArray, List.set_cons_zero, List.set_cons_succ]
  refine wpAnyH_take (i := 4) (v := ?_) rfl (by kernel_rfl) (by kernel_rfl) (by kernel_rfl) (fun _ _ _ h => h) (Or.inl ⟨by rfl, ?_⟩) (by assumption) ?_
  rotate_left 1
  · intro w hSw
    go_simp
    try with_reducible rfl
  try simp only [Act.put, List.getElem_toArray, List.getElem_cons_zero, List.getElem_cons_succ, List.setIfInBounds_toArray, List.set_cons_zero, List.set_cons_succ]
  refine wpAnyH_take (i := 5) (v := ?_) rfl (by kernel_rfl) (by kernel_rfl) (by kernel_rfl) (fun _ _ _ h => h) (Or.inl ⟨by rfl, ?_⟩) (by assumption) ?_
  rotate_left 1
  · intro w hSw
    go_simp
    try with_reducible rfl
  try simp only [Act.put, List.getElem_toArray, List.getElem_cons_zero, List.getElem_cons_succ, List.setIfInBounds_toArray, List.set_cons_zero, List.set_cons_succ]
  refine wpAnyH_take (i := 6) (v := ?_) rfl (by kernel_rfl) (by kernel_rfl) (by kernel_rfl) (fun _ _ _ h => h) (Or.inl ⟨by rfl, ?_⟩) (by assumption) ?_
  rotate_left 1
  · intro w hSw
    have q0 := Kept.cell hSw HM0.out (fun f => f)
    have q1 := Kept.cell hSw HM1.out (fun f => f)
    have q2 := Kept.cell hSw HM2.out (fun f => f)
    go_simp
    try with_reducible rfl
  try simp only [Act.put, List.getElem_toArray, List.getElem_cons_zero, List.getElem_cons_succ, List.setIfInBounds_toArray, List.set_cons_zero, List.set_cons_succ]
  refine wpAnyH_take (i := 7) (v := ?_) rfl (by kernel_rfl) (by kernel_rfl) (by kernel_rfl) (fun _ _ _ h => h) (Or.inl ⟨by rfl, ?_⟩) (by assumption) ?_
  rotate_left 1
  · intro w hSw
    have q0 := Kept.cell hSw HP0.out (fun f => f)
    have q1 := Kept.cell hSw HP1.out (fun f => f)
    have q2 := Kept.cell hSw HP2.out (fun f => f)
    go_simp
    try with_reducible rfl
  try simp only [Act.put, List.getElem_toArray, List.getElem_cons_zero, List.getElem_cons_succ, List.setIfInBounds_toArray, List.set_cons_zero, List.set_cons_succ]
  refine wpAnyH_ready (rs := [8]) (by kernel_rfl) (by simp) ?_
  refine AllReadyH.cons rfl (fun K hK => ?_) AllReadyH.nil
  go_simp
  refine (HC3.out _ hHeld).mono ?_
  rintro e wn ⟨rfl, hkn⟩
  refine hK.out _ _ (Kept.trans hHeld hkn) (fun hHeld => ?_)
  clear hK K hkn
  try simp only [Act.put, List.getElem_toArray, List.getElem_cons_zero, List.getElem_cons_succ, List.setIfInBounds_toArray, List.set_cons_zero, List.set_cons_succ]
  refine wpAnyH_take (i := 9) (v := ?_) rfl (by kernel_rfl) (by kernel_rfl) (by kernel_rfl) (fun _ _ _ h => h) (Or.inl ⟨by rfl, ?_⟩) (by assumption) ?_
  rotate_left 1
  · intro w hSw
    go_simp
    try with_reducible rfl
  try simp only [Act.put, List.getElem_toArray, List.getElem_cons_zero, List.getElem_cons_succ, List.setIfInBounds_toArray, List.set_cons_zero, List.set_cons_succ]
  refine wpAnyH_take (i := 10) (v := ?_) rfl (by kernel_rfl) (by kernel_rfl) (by kernel_rfl) (fun _ _ _ h => h) (Or.inl ⟨by rfl, ?_⟩) (by assumption) ?_
  rotate_left 1
  · intro w hSw
    go_simp
    try with_reducible rfl
  try simp only [Act.put, List.getElem_toArray, List.getElem_cons_zero, List.getElem_cons_succ, List.setIfInBounds_toArray, List.set_cons_zero, List.set_cons_succ]
  refine wpAnyH_done (by kernel_rfl) ?_ _
  go_wp2
  go_ret
  exact ⟨rfl, HK3.out.trans hHeld⟩

theorem EncPR.out {p : PG} {w w' : World} {e : Ending} (h : EncPR p w e w') : ∃ v' bs, e = .returned (.tuple #[v', .int .i64 (encPE p)]) ∧ IsB w' v' bs ∧ bs = (if encPE p = 0 then bytesP p else []) ∧ Kept (fun _ => False) w w' := by
  obtain ⟨hk, h⟩ := h
  by_cases h0 : encPE p = 0
  · rw [if_pos h0] at h
    obtain ⟨v', h1, h2⟩ := h
    exact ⟨v', bytesP p, by rw [h0]; exact h1, isB_own h2, by rw [if_pos h0], hk⟩
  · rw [if_neg h0] at h
    exact ⟨_, [], h, .inl ⟨rfl, none, 0, rfl⟩, by rw [if_neg h0], hk⟩
set_option maxHeartbeats 8000000 in
theorem encodes_walk (v : Value) (p : PG) (w : World) (B : Nat) (h : PgIs w B v p) (hB : B ≤ w.heap.size) (ho : p.Ok) : Calls Try.prog 4 #[v] w fun e w' => e = .returned (.bool true) ∧ Kept (fun _ => False) w w' := by
  have hpg := h
  obtain ⟨dv, fv, rfl, hd, hdl, hf⟩ := h
  obtain ⟨dao, dc, rfl⟩ := hd.shape
  obtain ⟨fao, fc, rfl⟩ := hf.shape
  obtain ⟨nd, hnd⟩ : ∃ n, n = p.data.length := ⟨_, rfl⟩
  obtain ⟨nf, hnf⟩ : ∃ n, n = p.fns.length := ⟨_, rfl⟩
  obtain ⟨mem, hmem⟩ : ∃ m, m = p.mem := ⟨_, rfl⟩
  have hlv : ∀ gd gl, lentV p gd gl = .agg #[.int .i64 mem, .slice (some ⟨gd, 0, none⟩) nd (nd + 5), .slice (some ⟨gl, 0, none⟩) nf (nf + 2)] := fun gd gl => by unfold lentV; rw [← hmem, ← hnd, ← hnf]
  rw [← hmem, ← hnd, ← hnf] at hpg ⊢
  have hkA : Kept (fun _ => False) w (w.alloc (.cells #[.int .i64 mem, .slice dao nd dc, .slice fao nf fc] 25)) := (Kept.refl _ _).alloc _
  have hbA := heap_alloc_new w (.cells #[.int .i64 mem, .slice dao nd dc, .slice fao nf fc] 25)
  have HPG := hid_of (hpg.kept hkA (fun _ _ f => f))
  have HB0 := hid_of (Nat.le_trans hB hkA.size)
  have HO := hid_of ho
  have HKA := hid_of hkA
  have HBA := hid_of hbA
  have HLV := hid_of hlv
  clear hpg hd hdl hf ho hnf hnd hmem hB hkA hbA hlv
  go_enter Try.func4, Try.ntmps4
  go_wp2_with fail
  generalize w.alloc (.cells #[.int .i64 mem, .slice dao nd dc, .slice fao nf fc] 25) = w0 at *
  generalize w.heap.size = gb at *
  refine (known_any w0).mono ?_
  rintro e w1 ⟨rfl, hk1⟩
  have HPG1 := hid_of (HPG.out.kept hk1 (fun _ _ f => f))
  have HB1 := hid_of (box_kept hk1 HBA.out (fun f => f))
  have HK1 := hid_of (HKA.out.trans hk1)
  have HS1 := hid_of (Nat.le_trans HB0.out hk1.size)
  clear hk1 HPG HBA HKA HB0
  have c0 := cell_block _ gb 0 _ _ _ HB1.out
  have c1 := cell_block _ gb 1 _ _ _ HB1.out
  have c2 := cell_block _ gb 2 _ _ _ HB1.out
  have HLD := hid_of (lend_p _ p w1 B HPG1.out HS1.out HO.out)
  go_wp2_with fail
  refine HLD.out.mono ?_
  rintro e w2 ⟨gd, gl, cgs, rfl, hlp, hk2, _⟩
  rw [HLV.out gd gl]
  have hkM : Kept (fun _ => False) w2 (w2.alloc (.cells #[.int .i64 mem, .slice (some ⟨gd, 0, none⟩) nd (nd + 5), .slice (some ⟨gl, 0, none⟩) nf (nf + 2)] 25)) := (Kept.refl _ _).alloc _
  have HBM := hid_of (heap_alloc_new w2 (.cells #[.int .i64 mem, .slice (some ⟨gd, 0, none⟩) nd (nd + 5), .slice (some ⟨gl, 0, none⟩) nf (nf + 2)] 25))
  have HLP := hid_of (hlp.same hkM)
  have HPG3 := hid_of (HPG1.out.kept (hk2.trans hkM) (fun _ _ f => f))
  have HB3 := hid_of (box_kept (hk2.trans hkM) HB1.out (fun f => f))
  have HK3 := hid_of (HK1.out.trans (hk2.trans hkM))
  have HS3 := hid_of (Nat.le_trans HS1.out (hk2.trans hkM).size)
  clear hlp hk2 hkM HLD HPG1 HB1 HK1 HS1 c0 c1 c2
  go_upto_region 4 with fail
  generalize w2.alloc (.cells #[.int .i64 mem, .slice (some ⟨gd, 0, none⟩) nd (nd + 5), .slice (some ⟨gl, 0, none⟩) nf (nf + 2)] 25) = w3 at *
  generalize w2.heap.size = gm at *
  have HM0 := hid_of (show w3.cell? ⟨gm, 0, none⟩ = some (.int .i64 mem) from cell_block _ gm 0 _ _ _ HBM.out)
  have HM1 := hid_of (show w3.cell? ⟨gm, 1, none⟩ = some (.slice (some ⟨gd, 0, none⟩) nd (nd + 5)) from cell_block _ gm 1 _ _ _ HBM.out)
  have HM2 := hid_of (show w3.cell? ⟨gm, 2, none⟩ = some (.slice (some ⟨gl, 0, none⟩) nf (nf + 2)) from cell_block _ gm 2 _ _ _ HBM.out)
  have HP0 := hid_of (show w3.cell? ⟨gb, 0, none⟩ = some (.int .i64 mem) from cell_block _ gb 0 _ _ _ HB3.out)
  have HP1 := hid_of (show w3.cell? ⟨gb, 1, none⟩ = some (.slice dao nd dc) from cell_block _ gb 1 _ _ _ HB3.out)
  have HP2 := hid_of (show w3.cell? ⟨gb, 2, none⟩ = some (.slice fao nf fc) from cell_block _ gb 2 _ _ _ HB3.out)
  have HPL : Hid (∀ W, Kept (fun _ => False) w3 W → PgIs W W.heap.size (.agg #[.int .i64 mem, .slice (some ⟨gd, 0, none⟩) nd (nd + 5), .slice (some ⟨gl, 0, none⟩) nf (nf + 2)]) p) := fun W hW => by rw [← HLV.out gd gl]; exact (HLP.out.same hW).pg
  have HC3 : Hid (∀ W, Kept (fun _ => False) w3 W → Calls Try.prog 13 #[.agg #[.int .i64 mem, .slice (some ⟨gd, 0, none⟩) nd (nd + 5), .slice (some ⟨gl, 0, none⟩) nf (nf + 2)], .agg #[.int .i64 mem, .slice dao nd dc, .slice fao nf fc]] W fun e w' => e = .returned (.bool true) ∧ Kept (fun _ => False) W w') := fun W hW => by
    rw [← HLV.out gd gl]
    exact held_p gd gl cgs _ p W B (HLP.out.same hW) (HPG3.out.kept hW (fun _ _ f => f)) (Nat.le_trans HS3.out hW.size) HO.out
  have m0 := HM0.out
  have m1 := HM1.out
  have m2 := HM2.out
  have HE1 := hid_of (encode_p _ p w3 w3.heap.size (HPL.out w3 (Kept.refl _ _)) (Nat.le_refl _) HO.out)
  go_wp2_with fail
  refine HE1.out.mono ?_
  intro e w4 hr4
  obtain ⟨v4, bs, rfl, hi4, hbs, hk4⟩ := hr4.out
  obtain ⟨ee, hee⟩ : ∃ e, e = encPE p := ⟨_, rfl⟩
  obtain ⟨bo, bc, hv4⟩ := hi4.shape
  obtain ⟨nb, hnb⟩ : ∃ n, n = bs.length := ⟨_, rfl⟩
  rw [← hnb] at hv4
  subst hv4
  rw [← hee]
  have HI4 := hid_of hi4
  have HK4 := hid_of hk4
  have HBS := hid_of hbs
  have HEE := hid_of hee
  have HNB := hid_of hnb
  have p0 := hk4.cell HP0.out (fun f => f)
  have p1 := hk4.cell HP1.out (fun f => f)
  have p2 := hk4.cell HP2.out (fun f => f)
  have HE2 := hid_of (rencode_any _ p w4 B (HPG3.out.kept hk4 (fun _ _ f => f)) (Nat.le_trans HS3.out hk4.size) HO.out)
  clear hr4 hi4 hbs hk4 hee hnb HE1 m0 m1 m2
  go_wp2_with fail
  refine HE2.out.mono ?_
  intro e w5 hr5
  obtain ⟨v5, bs5, rfl, hi5, hbs5, hk5⟩ := hr5.out
  have hbb : bs5 = bs := by rw [hbs5, HBS.out]
  subst hbb
  obtain ⟨bo5, bc5, hv5⟩ := hi5.shape
  rw [← HNB.out] at hv5
  subst hv5
  rw [← HEE.out]
  have hs1 := conv_str _ _ _ (HI4.out.kept hk5 (fun _ _ f => f))
  have hs2 := conv_str _ _ _ hi5
  obtain ⟨sa, hsa⟩ : ∃ s, s = str bs5 := ⟨_, rfl⟩
  rw [← hsa] at hs1 hs2
  have hk45 := HK4.out.trans hk5
  have HK5 := hid_of (HK3.out.trans hk45)
  have m0 := hk45.cell HM0.out (fun f => f)
  have m1 := hk45.cell HM1.out (fun f => f)
  have m2 := hk45.cell HM2.out (fun f => f)
  have p0 := hk45.cell HP0.out (fun f => f)
  have p1 := hk45.cell HP1.out (fun f => f)
  have p2 := hk45.cell HP2.out (fun f => f)
  have HH := hid_of (HC3.out w5 hk45)
  clear hr5 hi5 hbs5 hk5 hsa hk45 HE2 HBS HEE HNB HI4 HK4
  go_wp2_with fail
  refine HH.out.mono ?_
  rintro e w6 ⟨rfl, hk6⟩
  have HK6 := hid_of (HK5.out.trans hk6)
  clear hk6 HH hs1 hs2 m0 m1 m2 p0 p1 p2
  go_wp2
  go_ret
  exact ⟨rfl, HK6.out⟩
end Go.Proofs.Ytnjhnlohjhdcpaa

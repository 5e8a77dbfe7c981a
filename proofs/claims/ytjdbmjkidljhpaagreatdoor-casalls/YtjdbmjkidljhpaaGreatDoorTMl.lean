/-
 Ml: Cputs, Cputc, Cputf, Cputg, Cputh, Cputi.
-/
import Derived.Test.YtjdbmjkidljhpaaGreatDoorTMk
namespace Go.Proofs.YtjdbmjkidljhpaaGreatDoor
open Go.RowKit
set_option linter.unusedVariables false
set_option linter.unusedSimpArgs false
set_option maxRecDepth 100000
set_option maxHeartbeats 4000000 in
theorem put_same {w : World} {s : Nat} {mv : Value} {σ : Sg} (h : Stor w s mv σ) (hL : Laid w) (hs0 : s ≠ 0) (k : Nat) (hk : σ.wd = k) (h1 : 1 ≤ k) (h2 : k ≤ 32) (bv : Value) (xs : List Int) (hx : BIn w bv xs) (hxr : ∀ x ∈ xs, 0 ≤ x ∧ x < 256) (hn : xs.length ≤ 1048576) (hxs : xs ≠ [] → ∀ g, bv.ownBlock = some g → g ≠ s) (hpt : 0 ≤ σ.pt) (hpt2 : σ.pt ≤ 1099511627776) (e : En) (he : look σ.es (frontOf k xs) = some e) (hex : e.xs = xs) :
  Calls Tryz.prog 26 #[.pointer (some ⟨s, 0, none⟩), bv] w fun e w' => e = .returned (.tuple #[dv (frontOf k xs), .int .i64 0]) ∧ Stor w' s mv σ.put1 ∧ Kept (fun k => k = s) w w' := by
 obtain ⟨bo, bc, hbv, _, _⟩ := id hx
 subst hbv
 have hd := frontOf_len k xs h2
 obtain ⟨d, hdef⟩ : ∃ d, d = frontOf k xs := ⟨_, rfl⟩
 rw [← hdef] at hd
 have hds := size28_of d hd
 have hone := oneCells .u8 d
 have hPN : ¬ (1048576 : Int) < (xs.length : Int) := by omega
 have HOS : Hid (32 = (d.map (Value.int .u8)).toArray.size) := by show 32 = _; simp [hd]
 have HDIG : Hid (∀ W, Stor W s mv σ.put1 → Laid W → BIn W (.slice bo xs.length bc) xs → Calls Tryz.prog 37 #[.pointer (some ⟨s, 0, none⟩), .slice bo xs.length bc] W fun e w' => e = .returned (.agg (d.map (Value.int .u8)).toArray) ∧ Kept (fun _ => False) W w') := fun W hW hLW hxW => by
  have hc0 : W.cell? ⟨s, 0, none⟩ = some (.int .i64 σ.wd) := hW.cell 0
  rw [hk] at hc0
  rw [hdef]
  exact digest_cells s k h1 h2 _ xs W hc0 hLW hxW hxr (by omega)
 obtain ⟨ao, n, c, st, hV⟩ := h.shape d
 have HLE : Hid (look σ.es (frontOf k xs) = some e) := he
 have HLK : Hid (∀ W, Stor W s mv σ.put1 → (Instr.lookup 63 mv (.agg (d.map (Value.int .u8)).toArray) true).run Tryz.prog W = .ok (.tuple #[.agg #[.slice ao n c, .int .i64 st], .bool true]) W) := fun W hW => by
  have h7 := hW.found d hd true
  have h8 : σ.put1.es = σ.es := rfl
  rw [h8, hV] at h7
  rw [hdef, HLE.out, ← hdef] at h7
  exact h7
 have HBVE : Hid (Value.slice ao n c = e.bv) := by
  show Value.slice ao n c = e.bv
  unfold lookV at hV
  rw [hdef, HLE.out] at hV
  have hV2 : Value.agg #[e.bv, .int .i64 e.st] = .agg #[.slice ao n c, .int .i64 st] := hV
  injection hV2 with hV2
  have := congrArg (fun a => a[0]?) hV2
  simpa using this.symm
 have HEM : Hid (e ∈ σ.es) := (look_mem _ _ _ he).1
 have HEQ : Hid (∀ W, Stor W s mv σ.put1 → BIn W (.slice bo xs.length bc) xs → Calls Tryz.prog 50 #[.slice ao n c, .slice bo xs.length bc] W fun e' w' => e' = .returned (.bool (decide (e.xs = xs))) ∧ w' = W) := fun W hW hxW => by
  have hb := hW.blob e HEM.out
  rw [HBVE.out]
  exact equal_any _ _ _ _ W hb.1 hxW hb.2.1 hxr
 have HFAR : Hid (∀ e' ∈ σ.es, e'.xs ≠ [] → e'.bv.ownBlock ≠ some w.heap.size) := fun e' he' hx0 hg => by
  obtain ⟨i, u, hu⟩ := (h.blob e' he').1.lt hx0 _ hg
  obtain ⟨cc, t, f, h7⟩ := cell_cells hu
  have := heap_lt h7
  omega
 rw [decide_eq_true hex] at HEQ
 have HRD : Hid (dv (frontOf k xs) = .agg (d.map (Value.int .u8)).toArray) := by rw [hdef]; rfl
 clear hV hex he
 have c6 : w.cell? ⟨s, 6, none⟩ = some (.int .i64 σ.pt) := h.cell 6
 have f6 := h.fz 6
 have hsl := h.lt
 have hwp : IntKind.i64.wrap (σ.pt + 1) = σ.pt + 1 := by rw [IntKind.wrap_i64]; omega
 obtain ⟨hS1, hK1⟩ := h.set (σ' := σ.put1) 6 (.int .i64 (σ.pt + 1)) rfl rfl
 have HSA : Hid (Stor ((w.setCell ⟨s, 6, none⟩ (.int .i64 (σ.pt + 1))).alloc (.cells z32 29)) s mv σ.put1) := hS1.kept ((Kept.refl (fun _ => False) _).alloc _) (fun _ _ f => f)
 have HKA : Hid (Kept (fun k => k = s) w ((w.setCell ⟨s, 6, none⟩ (.int .i64 (σ.pt + 1))).alloc (.cells z32 29))) := hK1.alloc _
 have hsz : (w.setCell ⟨s, 6, none⟩ (.int .i64 (σ.pt + 1))).heap.size = w.heap.size := by simp [World.setCell]
 have HZA : Hid (((w.setCell ⟨s, 6, none⟩ (.int .i64 (σ.pt + 1))).alloc (.cells z32 29)).heap[w.heap.size]? = some (.cells z32 29 (0, 0))) := alloc_new _ _ hsz.symm
 have HXA := hid_of (hx.kept2 HKA.out (fun hx0 g hg => hxs hx0 g hg))
 have HLA := hid_of (laid_kept hL HKA.out (fun e => hs0 e.symm))
 clear hS1 hK1 hsz
 unfold dv at *
 clear h hx hL
 generalize (d.map (Value.int .u8)).toArray = ds at *
 go_enter Tryz.func26, Tryz.ntmps26
 go_wp2_with fail
 generalize (w.setCell ⟨s, 6, none⟩ (.int .i64 (σ.pt + 1))).alloc (.cells z32 29) = wA at *
 refine (HDIG.out wA HSA.out HLA.out HXA.out).mono ?_
 rintro e w1 ⟨rfl, hk1⟩
 have HSB : Hid (Stor (w1.alloc (.cells ds 29)) s mv σ.put1) := HSA.out.kept (hk1.alloc _) (fun _ _ f => f)
 have HKB : Hid (Kept (fun k => k = s) w (w1.alloc (.cells ds 29))) := (HKA.out.trans (hk1.mono (fun _ _ f => f.elim))).alloc _
 have HZB : Hid ((w1.alloc (.cells ds 29)).heap[w.heap.size]? = some (.cells z32 29 (0, 0))) := alloc_old ((hk1.block _ (heap_lt HZA.out) (fun f => f)).trans HZA.out)
 have HDB : Hid ((w1.alloc (.cells ds 29)).heap[w1.heap.size]? = some (.cells ds 29 (0, 0))) := alloc_new _ _ rfl
 have HXB : Hid (BIn (w1.alloc (.cells ds 29)) (.slice bo xs.length bc) xs) := HXA.out.kept2 (hk1.alloc _) (fun _ _ _ f => f)
 have HLB : Hid (Laid (w1.alloc (.cells ds 29))) := laid_kept HLA.out (hk1.alloc _) (fun f => f)
 have hb6 : w.heap.size < w1.heap.size := Nat.lt_of_lt_of_le (heap_lt HZA.out) hk1.size
 clear hk1 HDIG HSA HKA HZA HXA HLA
 go_wp2_with (refine wpList_store_row rfl 29 _ _ rfl w1.heap.size ds rfl rfl 29 _ (alloc_new _ _ rfl) hds HOS.out hone ?_; rw [setRow_new _ _ _ _ rfl])
 generalize hgb6 : w1.heap.size = b6 at *
 generalize w1.alloc (.cells ds 29) = wB at *
 clear hgb6
 try simp only [Act.put]
 have HS : Hid (∀ W, Kept (fun _ => False) wB W → W.cell? ⟨s, 2, none⟩ = some mv ∧ W.heap[b6]? = some (.cells ds 29 (0, 0)) ∧ (Instr.lookup 63 mv (.agg ds) true).run Tryz.prog W = .ok (.tuple #[.agg #[.slice ao n c, .int .i64 st], .bool true]) W) := fun W hW => by
  have hW7 := HSB.out.kept hW (fun _ _ f => f)
  exact ⟨hW7.cell 2, (hW.block _ (heap_lt HDB.out) (fun f => f)).trans HDB.out, HLK.out W hW7⟩
 refine wp_region_held_drew (S := fun w' => w'.cell? ⟨s, 2, none⟩ = some mv ∧ w'.heap[b6]? = some (.cells ds 29 (0, 0)) ∧ (Instr.lookup 63 mv (.agg ds) true).run Tryz.prog w' = .ok (.tuple #[.agg #[.slice ao n c, .int .i64 st], .bool true]) w') (by kernel_rfl) (HS.out _ ((Kept.refl _ wB).drew)) (fun hHeld => ?_)
 iterate 4
  refine tkn (v := ?_) 0 rfl ?_ ?_; rotate_left 1
  ·intro w hSw; obtain ⟨s1, s2, s3⟩ := hSw; go_simp; try with_reducible rfl
  try simp only [Act.put, tdy]
 refine tkg 4 (.agg ds) rfl (yields_row (by rfl) 29 _ rfl b6 rfl 29 ds (0, 0) _ (fun w hSw => hSw.2.1) Tryz.underlying29 rfl hds) ?_
 try simp only [Act.put, tdy]
 iterate 4
  refine tkn (v := ?_) 5 rfl ?_ ?_; rotate_left 1
  ·intro w hSw; obtain ⟨s1, s2, s3⟩ := hSw; go_simp; try with_reducible rfl
  try simp only [Act.put, tdy]
 refine wpAnyH_ready (rs := [9]) (by kernel_rfl) (by simp) ?_
 refine AllReadyH.cons rfl (fun K hK => ?_) .nil
 go_simp
 refine hK.out _ _ (HS.out _ (((Kept.refl _ wB).alloc _).drew)) (fun hHeld => ?_)
 clear hK K
 try simp only [Act.put, tdy]
 refine wpAnyH_ready (rs := [10]) (by kernel_rfl) (by simp) ?_
 refine AllReadyH.cons rfl (fun K hK => ?_) .nil
 go_simp
 refine hK.out _ _ (HS.out _ (((Kept.refl _ wB).alloc _).drew)) (fun hHeld => ?_)
 clear hK K
 try simp only [Act.put, tdy]
 refine tkp (v := ?_) 11 rfl ?_ ?_; rotate_left 1
 ·intro w hSw; obtain ⟨s1, s2, s3⟩ := hSw; go_simp; try with_reducible rfl
 try simp only [Act.put, tdy]
 refine wpAnyH_done (by kernel_rfl) ?_ _
 have hkC : Kept (fun _ => False) wB (wB.alloc (.cells #[.slice ao n c, .int .i64 st] 87)).drew := ((Kept.refl _ wB).alloc _).drew
 have HSC := hid_of (HSB.out.kept hkC (fun _ _ f => f))
 have HKC : Hid (Kept (fun k => k = s) w (wB.alloc (.cells #[.slice ao n c, .int .i64 st] 87)).drew) := HKB.out.trans (hkC.mono (fun _ _ f => f.elim))
 have HZC : Hid ((wB.alloc (.cells #[.slice ao n c, .int .i64 st] 87)).drew.heap[w.heap.size]? = some (.cells z32 29 (0, 0))) := (hkC.block _ (heap_lt HZB.out) (fun f => f)).trans HZB.out
 have HDC : Hid ((wB.alloc (.cells #[.slice ao n c, .int .i64 st] 87)).drew.heap[b6]? = some (.cells ds 29 (0, 0))) := (hkC.block _ (heap_lt HDB.out) (fun f => f)).trans HDB.out
 have HXC : Hid (BIn (wB.alloc (.cells #[.slice ao n c, .int .i64 st] 87)).drew (.slice bo xs.length bc) xs) := HXB.out.kept2 hkC (fun _ _ _ f => f)
 have HLC : Hid (Laid (wB.alloc (.cells #[.slice ao n c, .int .i64 st] 87)).drew) := laid_kept HLB.out hkC (fun f => f)
 have c5 : (wB.alloc (.cells #[.slice ao n c, .int .i64 st] 87)).drew.cell? ⟨wB.heap.size, 0, none⟩ = some (.slice ao n c) := (cell_block _ _ _ _ _ _ (alloc_new wB _ rfl)).trans rfl
 generalize hgb7 : wB.heap.size = b7 at *
 generalize (wB.alloc (.cells #[.slice ao n c, .int .i64 st] 87)).drew = wC at *
 clear hkC hgb7 HS HSB HKB HZB HDB HXB HLB HLK
 go_wp2_with fail
 refine (HEQ.out wC HSC.out HXC.out).mono ?_
 rintro e' wD ⟨rfl, hwD⟩
 have hwE := hwD.symm
 clear hwD
 subst hwE
 have HSW := HSC
 have HKW := HKC
 have HZW := HZC
 have HDW := HDC
 have HKR : Hid (Kept (fun k => k = s) w (wC.setRow w.heap.size ds)) := HKW.out.setRow (.inl (Nat.le_refl _)) _
 have HSR : Hid (Stor (wC.setRow w.heap.size ds) s mv σ.put1) := HSW.out.setRow _ _ HZW.out ⟨by omega, HFAR.out⟩
 have HRR := hid_of (setRow_heap wC w.heap.size _ ds 29 (0, 0) HZW.out)
 go_wp2_with (first | refine wpList_load_row rfl 29 _ rfl b6 rfl 29 ds (0, 0) _ HDW.out Tryz.underlying29 rfl hds ?_ | refine wpList_store_row rfl 29 _ _ rfl w.heap.size ds rfl rfl 29 _ HZW.out hds HOS.out hone ?_)
 try simp only [Act.put]
 refine bodyPost_ret (v := .tuple #[.agg ds, .int .i64 0]) ?_ rfl ⟨by rw [HRD.out], HSR.out, HKR.out⟩
 exact results_row_tmp (fn := Tryz.f26) (p := 4) (u := 5) (by rfl) _ _ w.heap.size 29 ds (0, 0) _ (by rfl) HRR.out Tryz.underlying29 rfl hds
end Go.Proofs.YtjdbmjkidljhpaaGreatDoor
namespace Go.Proofs.YtjdbmjkidljhpaaGreatDoor
open Go.RowKit
set_option linter.unusedVariables false
set_option linter.unusedSimpArgs false
set_option maxRecDepth 100000
set_option maxHeartbeats 4000000 in
theorem put_clash {w : World} {s : Nat} {mv : Value} {σ : Sg} (h : Stor w s mv σ) (hL : Laid w) (hs0 : s ≠ 0) (k : Nat) (hk : σ.wd = k) (h1 : 1 ≤ k) (h2 : k ≤ 32) (bv : Value) (xs : List Int) (hx : BIn w bv xs) (hxr : ∀ x ∈ xs, 0 ≤ x ∧ x < 256) (hn : xs.length ≤ 1048576) (hxs : xs ≠ [] → ∀ g, bv.ownBlock = some g → g ≠ s) (hpt : 0 ≤ σ.pt) (hpt2 : σ.pt ≤ 1099511627776) (e : En) (he : look σ.es (frontOf k xs) = some e) (hex : e.xs ≠ xs) (hwh : wholeB k σ.es (frontOf k xs) = true) :
  Calls Tryz.prog 26 #[.pointer (some ⟨s, 0, none⟩), bv] w fun e w' => e = .returned (.tuple #[dv zeros32, .int .i64 44]) ∧ Stor w' s mv σ.put1 ∧ Kept (fun k => k = s) w w' := by
 obtain ⟨bo, bc, hbv, _, _⟩ := id hx
 subst hbv
 have hd := frontOf_len k xs h2
 obtain ⟨d, hdef⟩ : ∃ d, d = frontOf k xs := ⟨_, rfl⟩
 rw [← hdef] at hd
 have hds := size28_of d hd
 have hone := oneCells .u8 d
 have hPN : ¬ (1048576 : Int) < (xs.length : Int) := by omega
 have HOS : Hid (32 = (d.map (Value.int .u8)).toArray.size) := by show 32 = _; simp [hd]
 have HDIG : Hid (∀ W, Stor W s mv σ.put1 → Laid W → BIn W (.slice bo xs.length bc) xs → Calls Tryz.prog 37 #[.pointer (some ⟨s, 0, none⟩), .slice bo xs.length bc] W fun e w' => e = .returned (.agg (d.map (Value.int .u8)).toArray) ∧ Kept (fun _ => False) W w') := fun W hW hLW hxW => by
  have hc0 : W.cell? ⟨s, 0, none⟩ = some (.int .i64 σ.wd) := hW.cell 0
  rw [hk] at hc0
  rw [hdef]
  exact digest_cells s k h1 h2 _ xs W hc0 hLW hxW hxr (by omega)
 obtain ⟨ao, n, c, st, hV⟩ := h.shape d
 have HLE : Hid (look σ.es (frontOf k xs) = some e) := he
 have HLK : Hid (∀ W, Stor W s mv σ.put1 → (Instr.lookup 63 mv (.agg (d.map (Value.int .u8)).toArray) true).run Tryz.prog W = .ok (.tuple #[.agg #[.slice ao n c, .int .i64 st], .bool true]) W) := fun W hW => by
  have h7 := hW.found d hd true
  have h8 : σ.put1.es = σ.es := rfl
  rw [h8, hV] at h7
  rw [hdef, HLE.out, ← hdef] at h7
  exact h7
 have HBVE : Hid (Value.slice ao n c = e.bv) := by
  show Value.slice ao n c = e.bv
  unfold lookV at hV
  rw [hdef, HLE.out] at hV
  have hV2 : Value.agg #[e.bv, .int .i64 e.st] = .agg #[.slice ao n c, .int .i64 st] := hV
  injection hV2 with hV2
  have := congrArg (fun a => a[0]?) hV2
  simpa using this.symm
 have HEM : Hid (e ∈ σ.es) := (look_mem _ _ _ he).1
 have HEQ : Hid (∀ W, Stor W s mv σ.put1 → BIn W (.slice bo xs.length bc) xs → Calls Tryz.prog 50 #[.slice ao n c, .slice bo xs.length bc] W fun e' w' => e' = .returned (.bool (decide (e.xs = xs))) ∧ w' = W) := fun W hW hxW => by
  have hb := hW.blob e HEM.out
  rw [HBVE.out]
  exact equal_any _ _ _ _ W hb.1 hxW hb.2.1 hxr
 have HFAR : Hid (∀ e' ∈ σ.es, e'.xs ≠ [] → e'.bv.ownBlock ≠ some w.heap.size) := fun e' he' hx0 hg => by
  obtain ⟨i, u, hu⟩ := (h.blob e' he').1.lt hx0 _ hg
  obtain ⟨cc, t, f, h7⟩ := cell_cells hu
  have := heap_lt h7
  omega
 have HWH : Hid (∀ W, Stor W s mv σ.put1 → Laid W → Calls Tryz.prog 44 #[.pointer (some ⟨s, 0, none⟩), .agg (d.map (Value.int .u8)).toArray] W fun e' w' => e' = .returned (.bool (wholeB k σ.es d)) ∧ Kept (fun _ => False) W w') := fun W hW hLW => whole_any hW hLW k hk h1 h2 d hd
 rw [decide_eq_false hex] at HEQ
 rw [hdef, hwh, ← hdef] at HWH
 have hz28 : (Tryz.prog.info? 29).map (·.size) = some (z32 : Array Value).size := size28
 have hzone : (z32 : Array Value).all (·.oneCell') = true := oneCells .u8 zeros32
 have HRZ : Hid (dv zeros32 = .agg z32) := rfl
 clear hV hex he hwh
 have c6 : w.cell? ⟨s, 6, none⟩ = some (.int .i64 σ.pt) := h.cell 6
 have f6 := h.fz 6
 have hsl := h.lt
 have hwp : IntKind.i64.wrap (σ.pt + 1) = σ.pt + 1 := by rw [IntKind.wrap_i64]; omega
 obtain ⟨hS1, hK1⟩ := h.set (σ' := σ.put1) 6 (.int .i64 (σ.pt + 1)) rfl rfl
 have HSA : Hid (Stor ((w.setCell ⟨s, 6, none⟩ (.int .i64 (σ.pt + 1))).alloc (.cells z32 29)) s mv σ.put1) := hS1.kept ((Kept.refl (fun _ => False) _).alloc _) (fun _ _ f => f)
 have HKA : Hid (Kept (fun k => k = s) w ((w.setCell ⟨s, 6, none⟩ (.int .i64 (σ.pt + 1))).alloc (.cells z32 29))) := hK1.alloc _
 have hsz : (w.setCell ⟨s, 6, none⟩ (.int .i64 (σ.pt + 1))).heap.size = w.heap.size := by simp [World.setCell]
 have HZA : Hid (((w.setCell ⟨s, 6, none⟩ (.int .i64 (σ.pt + 1))).alloc (.cells z32 29)).heap[w.heap.size]? = some (.cells z32 29 (0, 0))) := alloc_new _ _ hsz.symm
 have HXA := hid_of (hx.kept2 HKA.out (fun hx0 g hg => hxs hx0 g hg))
 have HLA := hid_of (laid_kept hL HKA.out (fun e => hs0 e.symm))
 clear hS1 hK1 hsz
 unfold dv at *
 clear h hx hL
 generalize (d.map (Value.int .u8)).toArray = ds at *
 go_enter Tryz.func26, Tryz.ntmps26
 go_wp2_with fail
 generalize (w.setCell ⟨s, 6, none⟩ (.int .i64 (σ.pt + 1))).alloc (.cells z32 29) = wA at *
 refine (HDIG.out wA HSA.out HLA.out HXA.out).mono ?_
 rintro e w1 ⟨rfl, hk1⟩
 have HSB : Hid (Stor (w1.alloc (.cells ds 29)) s mv σ.put1) := HSA.out.kept (hk1.alloc _) (fun _ _ f => f)
 have HKB : Hid (Kept (fun k => k = s) w (w1.alloc (.cells ds 29))) := (HKA.out.trans (hk1.mono (fun _ _ f => f.elim))).alloc _
 have HZB : Hid ((w1.alloc (.cells ds 29)).heap[w.heap.size]? = some (.cells z32 29 (0, 0))) := alloc_old ((hk1.block _ (heap_lt HZA.out) (fun f => f)).trans HZA.out)
 have HDB : Hid ((w1.alloc (.cells ds 29)).heap[w1.heap.size]? = some (.cells ds 29 (0, 0))) := alloc_new _ _ rfl
 have HXB : Hid (BIn (w1.alloc (.cells ds 29)) (.slice bo xs.length bc) xs) := HXA.out.kept2 (hk1.alloc _) (fun _ _ _ f => f)
 have HLB : Hid (Laid (w1.alloc (.cells ds 29))) := laid_kept HLA.out (hk1.alloc _) (fun f => f)
 have hb6 : w.heap.size < w1.heap.size := Nat.lt_of_lt_of_le (heap_lt HZA.out) hk1.size
 clear hk1 HDIG HSA HKA HZA HXA HLA
 go_wp2_with (refine wpList_store_row rfl 29 _ _ rfl w1.heap.size ds rfl rfl 29 _ (alloc_new _ _ rfl) hds HOS.out hone ?_; rw [setRow_new _ _ _ _ rfl])
 generalize hgb6 : w1.heap.size = b6 at *
 generalize w1.alloc (.cells ds 29) = wB at *
 clear hgb6
 try simp only [Act.put]
 have HS : Hid (∀ W, Kept (fun _ => False) wB W → W.cell? ⟨s, 2, none⟩ = some mv ∧ W.heap[b6]? = some (.cells ds 29 (0, 0)) ∧ (Instr.lookup 63 mv (.agg ds) true).run Tryz.prog W = .ok (.tuple #[.agg #[.slice ao n c, .int .i64 st], .bool true]) W) := fun W hW => by
  have hW7 := HSB.out.kept hW (fun _ _ f => f)
  exact ⟨hW7.cell 2, (hW.block _ (heap_lt HDB.out) (fun f => f)).trans HDB.out, HLK.out W hW7⟩
 refine wp_region_held_drew (S := fun w' => w'.cell? ⟨s, 2, none⟩ = some mv ∧ w'.heap[b6]? = some (.cells ds 29 (0, 0)) ∧ (Instr.lookup 63 mv (.agg ds) true).run Tryz.prog w' = .ok (.tuple #[.agg #[.slice ao n c, .int .i64 st], .bool true]) w') (by kernel_rfl) (HS.out _ ((Kept.refl _ wB).drew)) (fun hHeld => ?_)
 iterate 4
  refine tkn (v := ?_) 0 rfl ?_ ?_; rotate_left 1
  ·intro w hSw; obtain ⟨s1, s2, s3⟩ := hSw; go_simp; try with_reducible rfl
  try simp only [Act.put, tdy]
 refine tkg 4 (.agg ds) rfl (yields_row (by rfl) 29 _ rfl b6 rfl 29 ds (0, 0) _ (fun w hSw => hSw.2.1) Tryz.underlying29 rfl hds) ?_
 try simp only [Act.put, tdy]
 iterate 4
  refine tkn (v := ?_) 5 rfl ?_ ?_; rotate_left 1
  ·intro w hSw; obtain ⟨s1, s2, s3⟩ := hSw; go_simp; try with_reducible rfl
  try simp only [Act.put, tdy]
 refine wpAnyH_ready (rs := [9]) (by kernel_rfl) (by simp) ?_
 refine AllReadyH.cons rfl (fun K hK => ?_) .nil
 go_simp
 refine hK.out _ _ (HS.out _ (((Kept.refl _ wB).alloc _).drew)) (fun hHeld => ?_)
 clear hK K
 try simp only [Act.put, tdy]
 refine wpAnyH_ready (rs := [10]) (by kernel_rfl) (by simp) ?_
 refine AllReadyH.cons rfl (fun K hK => ?_) .nil
 go_simp
 refine hK.out _ _ (HS.out _ (((Kept.refl _ wB).alloc _).drew)) (fun hHeld => ?_)
 clear hK K
 try simp only [Act.put, tdy]
 refine tkp (v := ?_) 11 rfl ?_ ?_; rotate_left 1
 ·intro w hSw; obtain ⟨s1, s2, s3⟩ := hSw; go_simp; try with_reducible rfl
 try simp only [Act.put, tdy]
 refine wpAnyH_done (by kernel_rfl) ?_ _
 have hkC : Kept (fun _ => False) wB (wB.alloc (.cells #[.slice ao n c, .int .i64 st] 87)).drew := ((Kept.refl _ wB).alloc _).drew
 have HSC := hid_of (HSB.out.kept hkC (fun _ _ f => f))
 have HKC : Hid (Kept (fun k => k = s) w (wB.alloc (.cells #[.slice ao n c, .int .i64 st] 87)).drew) := HKB.out.trans (hkC.mono (fun _ _ f => f.elim))
 have HZC : Hid ((wB.alloc (.cells #[.slice ao n c, .int .i64 st] 87)).drew.heap[w.heap.size]? = some (.cells z32 29 (0, 0))) := (hkC.block _ (heap_lt HZB.out) (fun f => f)).trans HZB.out
 have HDC : Hid ((wB.alloc (.cells #[.slice ao n c, .int .i64 st] 87)).drew.heap[b6]? = some (.cells ds 29 (0, 0))) := (hkC.block _ (heap_lt HDB.out) (fun f => f)).trans HDB.out
 have HXC : Hid (BIn (wB.alloc (.cells #[.slice ao n c, .int .i64 st] 87)).drew (.slice bo xs.length bc) xs) := HXB.out.kept2 hkC (fun _ _ _ f => f)
 have HLC : Hid (Laid (wB.alloc (.cells #[.slice ao n c, .int .i64 st] 87)).drew) := laid_kept HLB.out hkC (fun f => f)
 have c5 : (wB.alloc (.cells #[.slice ao n c, .int .i64 st] 87)).drew.cell? ⟨wB.heap.size, 0, none⟩ = some (.slice ao n c) := (cell_block _ _ _ _ _ _ (alloc_new wB _ rfl)).trans rfl
 generalize hgb7 : wB.heap.size = b7 at *
 generalize (wB.alloc (.cells #[.slice ao n c, .int .i64 st] 87)).drew = wC at *
 clear hkC hgb7 HS HSB HKB HZB HDB HXB HLB HLK
 go_wp2_with fail
 refine (HEQ.out wC HSC.out HXC.out).mono ?_
 rintro e' wD ⟨rfl, hwD⟩
 have hwE := hwD.symm
 clear hwD
 subst hwE
 go_wp2_with (refine wpList_load_row rfl 29 _ rfl b6 rfl 29 ds (0, 0) _ HDC.out Tryz.underlying29 rfl hds ?_)
 skip
 refine (HWH.out wC HSC.out HLC.out).mono ?_
 rintro e' w2 ⟨rfl, hk2⟩
 have HSD := hid_of (HSC.out.kept hk2 (fun _ _ f => f))
 have HKD := hid_of (HKC.out.trans (hk2.mono (T := fun k => k = s) (fun _ _ f => f.elim)))
 have HZD := hid_of ((hk2.block _ (heap_lt HZC.out) (fun f => f)).trans HZC.out)
 have HDD := hid_of ((hk2.block _ (heap_lt HDC.out) (fun f => f)).trans HDC.out)
 have HXD := hid_of (HXC.out.kept2 hk2 (fun _ _ _ f => f))
 have HLD := hid_of (laid_kept HLC.out hk2 (fun f => f))
 clear hk2 HWH HSC HKC HZC HDC HXC HLC c5
 have HSW := HSD
 have HKW := HKD
 have HZW := HZD
 have HDW := HDD
 have HKR : Hid (Kept (fun k => k = s) w (w2.setRow w.heap.size z32)) := HKW.out.setRow (.inl (Nat.le_refl _)) _
 have HSR : Hid (Stor (w2.setRow w.heap.size z32) s mv σ.put1) := HSW.out.setRow _ _ HZW.out ⟨by omega, HFAR.out⟩
 have HRR := hid_of (setRow_heap w2 w.heap.size _ z32 29 (0, 0) HZW.out)
 go_wp2_with (first | refine wpList_load_row rfl 29 _ rfl b6 rfl 29 ds (0, 0) _ HDW.out Tryz.underlying29 rfl hds ?_ | refine wpList_store_row rfl 29 _ _ rfl w.heap.size z32 rfl rfl 29 _ HZW.out hz28 rfl hzone ?_)
 try simp only [Act.put]
 refine bodyPost_ret (v := .tuple #[.agg z32, .int .i64 44]) ?_ rfl ⟨by rw [HRZ.out], HSR.out, HKR.out⟩
 exact results_row_tmp (fn := Tryz.f26) (p := 4) (u := 5) (by rfl) _ _ w.heap.size 29 z32 (0, 0) _ (by rfl) HRR.out Tryz.underlying29 rfl hz28
end Go.Proofs.YtjdbmjkidljhpaaGreatDoor
namespace Go.Proofs.YtjdbmjkidljhpaaGreatDoor
open Go.RowKit
set_option linter.unusedVariables false
set_option linter.unusedSimpArgs false
set_option maxRecDepth 100000
set_option maxHeartbeats 4000000 in
theorem put_full0 {w : World} {s : Nat} {mv : Value} {σ : Sg} (h : Stor w s mv σ) (hL : Laid w) (hs0 : s ≠ 0) (k : Nat) (hk : σ.wd = k) (h1 : 1 ≤ k) (h2 : k ≤ 32) (bv : Value) (xs : List Int) (hx : BIn w bv xs) (hxr : ∀ x ∈ xs, 0 ≤ x ∧ x < 256) (hn : xs.length ≤ 1048576) (hxs : xs ≠ [] → ∀ g, bv.ownBlock = some g → g ≠ s) (hpt : 0 ≤ σ.pt) (hpt2 : σ.pt ≤ 1099511627776) (he : look σ.es (frontOf k xs) = none) (hu : 0 ≤ σ.us) (hu2 : σ.us ≤ 1099511627776) (hov : σ.cp < usedOf σ (frontOf k xs) xs) :
  Calls Tryz.prog 26 #[.pointer (some ⟨s, 0, none⟩), bv] w fun e w' => e = .returned (.tuple #[dv zeros32, .int .i64 43]) ∧ Stor w' s mv σ.put1 ∧ Kept (fun k => k = s) w w' := by
 obtain ⟨bo, bc, hbv, _, _⟩ := id hx
 subst hbv
 have hd := frontOf_len k xs h2
 obtain ⟨d, hdef⟩ : ∃ d, d = frontOf k xs := ⟨_, rfl⟩
 rw [← hdef] at hd
 have hds := size28_of d hd
 have hone := oneCells .u8 d
 have hPN : ¬ (1048576 : Int) < (xs.length : Int) := by omega
 have HOS : Hid (32 = (d.map (Value.int .u8)).toArray.size) := by show 32 = _; simp [hd]
 have HDIG : Hid (∀ W, Stor W s mv σ.put1 → Laid W → BIn W (.slice bo xs.length bc) xs → Calls Tryz.prog 37 #[.pointer (some ⟨s, 0, none⟩), .slice bo xs.length bc] W fun e w' => e = .returned (.agg (d.map (Value.int .u8)).toArray) ∧ Kept (fun _ => False) W w') := fun W hW hLW hxW => by
  have hc0 : W.cell? ⟨s, 0, none⟩ = some (.int .i64 σ.wd) := hW.cell 0
  rw [hk] at hc0
  rw [hdef]
  exact digest_cells s k h1 h2 _ xs W hc0 hLW hxW hxr (by omega)
 have hwh : wholeB k σ.es (frontOf k xs) = false := by unfold wholeB; rw [he]
 obtain ⟨ao, n, c, st, hV⟩ := h.shape d
 have HLE : Hid (look σ.es (frontOf k xs) = none) := he
 have HLK : Hid (∀ W, Stor W s mv σ.put1 → (Instr.lookup 63 mv (.agg (d.map (Value.int .u8)).toArray) true).run Tryz.prog W = .ok (.tuple #[.agg #[.slice ao n c, .int .i64 st], .bool false]) W) := fun W hW => by
  have h7 := hW.found d hd true
  have h8 : σ.put1.es = σ.es := rfl
  rw [h8, hV] at h7
  rw [hdef, HLE.out, ← hdef] at h7
  exact h7
 have HFAR : Hid (∀ e' ∈ σ.es, e'.xs ≠ [] → e'.bv.ownBlock ≠ some w.heap.size) := fun e' he' hx0 hg => by
  obtain ⟨i, u, hu⟩ := (h.blob e' he').1.lt hx0 _ hg
  obtain ⟨cc, t, f, h7⟩ := cell_cells hu
  have := heap_lt h7
  omega
 have HWH : Hid (∀ W, Stor W s mv σ.put1 → Laid W → Calls Tryz.prog 44 #[.pointer (some ⟨s, 0, none⟩), .agg (d.map (Value.int .u8)).toArray] W fun e' w' => e' = .returned (.bool (wholeB k σ.es d)) ∧ Kept (fun _ => False) W w') := fun W hW hLW => whole_any hW hLW k hk h1 h2 d hd
 rw [hdef, hwh, ← hdef] at HWH
 have HLAY : Hid (∀ W, Stor W s mv σ.put1 → BIn W (.slice bo xs.length bc) xs → Calls Tryz.prog 51 #[.pointer (some ⟨s, 0, none⟩), .agg (d.map (Value.int .u8)).toArray, .slice bo xs.length bc] W fun e' w' => e' = .returned (.int .i64 43) ∧ Kept (fun _ => False) W w') := fun W hW hxW => lay_full hW d hd _ xs hxW hn hu hu2 (by rw [hdef]; exact hov)
 have hz28 : (Tryz.prog.info? 29).map (·.size) = some (z32 : Array Value).size := size28
 have hzone : (z32 : Array Value).all (·.oneCell') = true := oneCells .u8 zeros32
 have HRZ : Hid (dv zeros32 = .agg z32) := rfl
 have HRD : Hid (dv (frontOf k xs) = .agg (d.map (Value.int .u8)).toArray) := by rw [hdef]; rfl
 clear hV he hwh hov
 have c6 : w.cell? ⟨s, 6, none⟩ = some (.int .i64 σ.pt) := h.cell 6
 have f6 := h.fz 6
 have hsl := h.lt
 have hwp : IntKind.i64.wrap (σ.pt + 1) = σ.pt + 1 := by rw [IntKind.wrap_i64]; omega
 obtain ⟨hS1, hK1⟩ := h.set (σ' := σ.put1) 6 (.int .i64 (σ.pt + 1)) rfl rfl
 have HSA : Hid (Stor ((w.setCell ⟨s, 6, none⟩ (.int .i64 (σ.pt + 1))).alloc (.cells z32 29)) s mv σ.put1) := hS1.kept ((Kept.refl (fun _ => False) _).alloc _) (fun _ _ f => f)
 have HKA : Hid (Kept (fun k => k = s) w ((w.setCell ⟨s, 6, none⟩ (.int .i64 (σ.pt + 1))).alloc (.cells z32 29))) := hK1.alloc _
 have hsz : (w.setCell ⟨s, 6, none⟩ (.int .i64 (σ.pt + 1))).heap.size = w.heap.size := by simp [World.setCell]
 have HZA : Hid (((w.setCell ⟨s, 6, none⟩ (.int .i64 (σ.pt + 1))).alloc (.cells z32 29)).heap[w.heap.size]? = some (.cells z32 29 (0, 0))) := alloc_new _ _ hsz.symm
 have HXA := hid_of (hx.kept2 HKA.out (fun hx0 g hg => hxs hx0 g hg))
 have HLA := hid_of (laid_kept hL HKA.out (fun e => hs0 e.symm))
 clear hS1 hK1 hsz
 unfold dv at *
 clear h hx hL
 generalize (d.map (Value.int .u8)).toArray = ds at *
 go_enter Tryz.func26, Tryz.ntmps26
 go_wp2_with fail
 generalize (w.setCell ⟨s, 6, none⟩ (.int .i64 (σ.pt + 1))).alloc (.cells z32 29) = wA at *
 refine (HDIG.out wA HSA.out HLA.out HXA.out).mono ?_
 rintro e w1 ⟨rfl, hk1⟩
 have HSB : Hid (Stor (w1.alloc (.cells ds 29)) s mv σ.put1) := HSA.out.kept (hk1.alloc _) (fun _ _ f => f)
 have HKB : Hid (Kept (fun k => k = s) w (w1.alloc (.cells ds 29))) := (HKA.out.trans (hk1.mono (fun _ _ f => f.elim))).alloc _
 have HZB : Hid ((w1.alloc (.cells ds 29)).heap[w.heap.size]? = some (.cells z32 29 (0, 0))) := alloc_old ((hk1.block _ (heap_lt HZA.out) (fun f => f)).trans HZA.out)
 have HDB : Hid ((w1.alloc (.cells ds 29)).heap[w1.heap.size]? = some (.cells ds 29 (0, 0))) := alloc_new _ _ rfl
 have HXB : Hid (BIn (w1.alloc (.cells ds 29)) (.slice bo xs.length bc) xs) := HXA.out.kept2 (hk1.alloc _) (fun _ _ _ f => f)
 have HLB : Hid (Laid (w1.alloc (.cells ds 29))) := laid_kept HLA.out (hk1.alloc _) (fun f => f)
 have hb6 : w.heap.size < w1.heap.size := Nat.lt_of_lt_of_le (heap_lt HZA.out) hk1.size
 clear hk1 HDIG HSA HKA HZA HXA HLA
 go_wp2_with (refine wpList_store_row rfl 29 _ _ rfl w1.heap.size ds rfl rfl 29 _ (alloc_new _ _ rfl) hds HOS.out hone ?_; rw [setRow_new _ _ _ _ rfl])
 generalize hgb6 : w1.heap.size = b6 at *
 generalize w1.alloc (.cells ds 29) = wB at *
 clear hgb6
 try simp only [Act.put]
 have HS : Hid (∀ W, Kept (fun _ => False) wB W → W.cell? ⟨s, 2, none⟩ = some mv ∧ W.heap[b6]? = some (.cells ds 29 (0, 0)) ∧ (Instr.lookup 63 mv (.agg ds) true).run Tryz.prog W = .ok (.tuple #[.agg #[.slice ao n c, .int .i64 st], .bool false]) W) := fun W hW => by
  have hW7 := HSB.out.kept hW (fun _ _ f => f)
  exact ⟨hW7.cell 2, (hW.block _ (heap_lt HDB.out) (fun f => f)).trans HDB.out, HLK.out W hW7⟩
 refine wp_region_held_drew (S := fun w' => w'.cell? ⟨s, 2, none⟩ = some mv ∧ w'.heap[b6]? = some (.cells ds 29 (0, 0)) ∧ (Instr.lookup 63 mv (.agg ds) true).run Tryz.prog w' = .ok (.tuple #[.agg #[.slice ao n c, .int .i64 st], .bool false]) w') (by kernel_rfl) (HS.out _ ((Kept.refl _ wB).drew)) (fun hHeld => ?_)
 iterate 4
  refine tkn (v := ?_) 0 rfl ?_ ?_; rotate_left 1
  ·intro w hSw; obtain ⟨s1, s2, s3⟩ := hSw; go_simp; try with_reducible rfl
  try simp only [Act.put, tdy]
 refine tkg 4 (.agg ds) rfl (yields_row (by rfl) 29 _ rfl b6 rfl 29 ds (0, 0) _ (fun w hSw => hSw.2.1) Tryz.underlying29 rfl hds) ?_
 try simp only [Act.put, tdy]
 iterate 4
  refine tkn (v := ?_) 5 rfl ?_ ?_; rotate_left 1
  ·intro w hSw; obtain ⟨s1, s2, s3⟩ := hSw; go_simp; try with_reducible rfl
  try simp only [Act.put, tdy]
 refine wpAnyH_ready (rs := [9]) (by kernel_rfl) (by simp) ?_
 refine AllReadyH.cons rfl (fun K hK => ?_) .nil
 go_simp
 refine hK.out _ _ (HS.out _ (((Kept.refl _ wB).alloc _).drew)) (fun hHeld => ?_)
 clear hK K
 try simp only [Act.put, tdy]
 refine wpAnyH_ready (rs := [10]) (by kernel_rfl) (by simp) ?_
 refine AllReadyH.cons rfl (fun K hK => ?_) .nil
 go_simp
 refine hK.out _ _ (HS.out _ (((Kept.refl _ wB).alloc _).drew)) (fun hHeld => ?_)
 clear hK K
 try simp only [Act.put, tdy]
 refine tkp (v := ?_) 11 rfl ?_ ?_; rotate_left 1
 ·intro w hSw; obtain ⟨s1, s2, s3⟩ := hSw; go_simp; try with_reducible rfl
 try simp only [Act.put, tdy]
 refine wpAnyH_done (by kernel_rfl) ?_ _
 have hkC : Kept (fun _ => False) wB (wB.alloc (.cells #[.slice ao n c, .int .i64 st] 87)).drew := ((Kept.refl _ wB).alloc _).drew
 have HSC := hid_of (HSB.out.kept hkC (fun _ _ f => f))
 have HKC : Hid (Kept (fun k => k = s) w (wB.alloc (.cells #[.slice ao n c, .int .i64 st] 87)).drew) := HKB.out.trans (hkC.mono (fun _ _ f => f.elim))
 have HZC : Hid ((wB.alloc (.cells #[.slice ao n c, .int .i64 st] 87)).drew.heap[w.heap.size]? = some (.cells z32 29 (0, 0))) := (hkC.block _ (heap_lt HZB.out) (fun f => f)).trans HZB.out
 have HDC : Hid ((wB.alloc (.cells #[.slice ao n c, .int .i64 st] 87)).drew.heap[b6]? = some (.cells ds 29 (0, 0))) := (hkC.block _ (heap_lt HDB.out) (fun f => f)).trans HDB.out
 have HXC : Hid (BIn (wB.alloc (.cells #[.slice ao n c, .int .i64 st] 87)).drew (.slice bo xs.length bc) xs) := HXB.out.kept2 hkC (fun _ _ _ f => f)
 have HLC : Hid (Laid (wB.alloc (.cells #[.slice ao n c, .int .i64 st] 87)).drew) := laid_kept HLB.out hkC (fun f => f)
 have c5 : (wB.alloc (.cells #[.slice ao n c, .int .i64 st] 87)).drew.cell? ⟨wB.heap.size, 0, none⟩ = some (.slice ao n c) := (cell_block _ _ _ _ _ _ (alloc_new wB _ rfl)).trans rfl
 generalize hgb7 : wB.heap.size = b7 at *
 generalize (wB.alloc (.cells #[.slice ao n c, .int .i64 st] 87)).drew = wC at *
 clear hkC hgb7 HS HSB HKB HZB HDB HXB HLB HLK
 go_wp2_with (refine wpList_load_row rfl 29 _ rfl b6 rfl 29 ds (0, 0) _ HDC.out Tryz.underlying29 rfl hds ?_)
 skip
 refine (HWH.out wC HSC.out HLC.out).mono ?_
 rintro e' w2 ⟨rfl, hk2⟩
 have HSD := hid_of (HSC.out.kept hk2 (fun _ _ f => f))
 have HKD := hid_of (HKC.out.trans (hk2.mono (T := fun k => k = s) (fun _ _ f => f.elim)))
 have HZD := hid_of ((hk2.block _ (heap_lt HZC.out) (fun f => f)).trans HZC.out)
 have HDD := hid_of ((hk2.block _ (heap_lt HDC.out) (fun f => f)).trans HDC.out)
 have HXD := hid_of (HXC.out.kept2 hk2 (fun _ _ _ f => f))
 have HLD := hid_of (laid_kept HLC.out hk2 (fun f => f))
 clear hk2 HWH HSC HKC HZC HDC HXC HLC c5
 go_wp2_with (refine wpList_load_row rfl 29 _ rfl b6 rfl 29 ds (0, 0) _ HDD.out Tryz.underlying29 rfl hds ?_)
 refine (HLAY.out w2 HSD.out HXD.out).mono ?_
 rintro e' w3 ⟨rfl, hk3⟩
 have HSW := hid_of (HSD.out.kept hk3 (fun _ _ f => f))
 have HKW := hid_of (HKD.out.trans (hk3.mono (T := fun k => k = s) (fun _ _ f => f.elim)))
 have HZW := hid_of ((hk3.block _ (heap_lt HZD.out) (fun f => f)).trans HZD.out)
 have HDW := hid_of ((hk3.block _ (heap_lt HDD.out) (fun f => f)).trans HDD.out)
 clear hk3 HLAY HSD HKD HZD HDD HXD HLD
 have HKR : Hid (Kept (fun k => k = s) w (w3.setRow w.heap.size z32)) := HKW.out.setRow (.inl (Nat.le_refl _)) _
 have HSR : Hid (Stor (w3.setRow w.heap.size z32) s mv σ.put1) := HSW.out.setRow _ _ HZW.out ⟨by omega, HFAR.out⟩
 have HRR := hid_of (setRow_heap w3 w.heap.size _ z32 29 (0, 0) HZW.out)
 go_wp2_with (first | refine wpList_load_row rfl 29 _ rfl b6 rfl 29 ds (0, 0) _ HDW.out Tryz.underlying29 rfl hds ?_ | refine wpList_store_row rfl 29 _ _ rfl w.heap.size z32 rfl rfl 29 _ HZW.out hz28 rfl hzone ?_)
 try simp only [Act.put]
 refine bodyPost_ret (v := .tuple #[.agg z32, .int .i64 43]) ?_ rfl ⟨by rw [HRZ.out], HSR.out, HKR.out⟩
 exact results_row_tmp (fn := Tryz.f26) (p := 4) (u := 5) (by rfl) _ _ w.heap.size 29 z32 (0, 0) _ (by rfl) HRR.out Tryz.underlying29 rfl hz28
end Go.Proofs.YtjdbmjkidljhpaaGreatDoor
namespace Go.Proofs.YtjdbmjkidljhpaaGreatDoor
open Go.RowKit
set_option linter.unusedVariables false
set_option linter.unusedSimpArgs false
set_option maxRecDepth 100000
set_option maxHeartbeats 4000000 in
theorem put_full1 {w : World} {s : Nat} {mv : Value} {σ : Sg} (h : Stor w s mv σ) (hL : Laid w) (hs0 : s ≠ 0) (k : Nat) (hk : σ.wd = k) (h1 : 1 ≤ k) (h2 : k ≤ 32) (bv : Value) (xs : List Int) (hx : BIn w bv xs) (hxr : ∀ x ∈ xs, 0 ≤ x ∧ x < 256) (hn : xs.length ≤ 1048576) (hxs : xs ≠ [] → ∀ g, bv.ownBlock = some g → g ≠ s) (hpt : 0 ≤ σ.pt) (hpt2 : σ.pt ≤ 1099511627776) (e : En) (he : look σ.es (frontOf k xs) = some e) (hex : e.xs ≠ xs) (hwh : wholeB k σ.es (frontOf k xs) = false) (hu : 0 ≤ σ.us) (hu2 : σ.us ≤ 1099511627776) (hov : σ.cp < usedOf σ (frontOf k xs) xs) :
  Calls Tryz.prog 26 #[.pointer (some ⟨s, 0, none⟩), bv] w fun e w' => e = .returned (.tuple #[dv zeros32, .int .i64 43]) ∧ Stor w' s mv σ.put1 ∧ Kept (fun k => k = s) w w' := by
 obtain ⟨bo, bc, hbv, _, _⟩ := id hx
 subst hbv
 have hd := frontOf_len k xs h2
 obtain ⟨d, hdef⟩ : ∃ d, d = frontOf k xs := ⟨_, rfl⟩
 rw [← hdef] at hd
 have hds := size28_of d hd
 have hone := oneCells .u8 d
 have hPN : ¬ (1048576 : Int) < (xs.length : Int) := by omega
 have HOS : Hid (32 = (d.map (Value.int .u8)).toArray.size) := by show 32 = _; simp [hd]
 have HDIG : Hid (∀ W, Stor W s mv σ.put1 → Laid W → BIn W (.slice bo xs.length bc) xs → Calls Tryz.prog 37 #[.pointer (some ⟨s, 0, none⟩), .slice bo xs.length bc] W fun e w' => e = .returned (.agg (d.map (Value.int .u8)).toArray) ∧ Kept (fun _ => False) W w') := fun W hW hLW hxW => by
  have hc0 : W.cell? ⟨s, 0, none⟩ = some (.int .i64 σ.wd) := hW.cell 0
  rw [hk] at hc0
  rw [hdef]
  exact digest_cells s k h1 h2 _ xs W hc0 hLW hxW hxr (by omega)
 obtain ⟨ao, n, c, st, hV⟩ := h.shape d
 have HLE : Hid (look σ.es (frontOf k xs) = some e) := he
 have HLK : Hid (∀ W, Stor W s mv σ.put1 → (Instr.lookup 63 mv (.agg (d.map (Value.int .u8)).toArray) true).run Tryz.prog W = .ok (.tuple #[.agg #[.slice ao n c, .int .i64 st], .bool true]) W) := fun W hW => by
  have h7 := hW.found d hd true
  have h8 : σ.put1.es = σ.es := rfl
  rw [h8, hV] at h7
  rw [hdef, HLE.out, ← hdef] at h7
  exact h7
 have HBVE : Hid (Value.slice ao n c = e.bv) := by
  show Value.slice ao n c = e.bv
  unfold lookV at hV
  rw [hdef, HLE.out] at hV
  have hV2 : Value.agg #[e.bv, .int .i64 e.st] = .agg #[.slice ao n c, .int .i64 st] := hV
  injection hV2 with hV2
  have := congrArg (fun a => a[0]?) hV2
  simpa using this.symm
 have HEM : Hid (e ∈ σ.es) := (look_mem _ _ _ he).1
 have HEQ : Hid (∀ W, Stor W s mv σ.put1 → BIn W (.slice bo xs.length bc) xs → Calls Tryz.prog 50 #[.slice ao n c, .slice bo xs.length bc] W fun e' w' => e' = .returned (.bool (decide (e.xs = xs))) ∧ w' = W) := fun W hW hxW => by
  have hb := hW.blob e HEM.out
  rw [HBVE.out]
  exact equal_any _ _ _ _ W hb.1 hxW hb.2.1 hxr
 rw [decide_eq_false hex] at HEQ
 have HFAR : Hid (∀ e' ∈ σ.es, e'.xs ≠ [] → e'.bv.ownBlock ≠ some w.heap.size) := fun e' he' hx0 hg => by
  obtain ⟨i, u, hu⟩ := (h.blob e' he').1.lt hx0 _ hg
  obtain ⟨cc, t, f, h7⟩ := cell_cells hu
  have := heap_lt h7
  omega
 have HWH : Hid (∀ W, Stor W s mv σ.put1 → Laid W → Calls Tryz.prog 44 #[.pointer (some ⟨s, 0, none⟩), .agg (d.map (Value.int .u8)).toArray] W fun e' w' => e' = .returned (.bool (wholeB k σ.es d)) ∧ Kept (fun _ => False) W w') := fun W hW hLW => whole_any hW hLW k hk h1 h2 d hd
 rw [hdef, hwh, ← hdef] at HWH
 have HLAY : Hid (∀ W, Stor W s mv σ.put1 → BIn W (.slice bo xs.length bc) xs → Calls Tryz.prog 51 #[.pointer (some ⟨s, 0, none⟩), .agg (d.map (Value.int .u8)).toArray, .slice bo xs.length bc] W fun e' w' => e' = .returned (.int .i64 43) ∧ Kept (fun _ => False) W w') := fun W hW hxW => lay_full hW d hd _ xs hxW hn hu hu2 (by rw [hdef]; exact hov)
 have hz28 : (Tryz.prog.info? 29).map (·.size) = some (z32 : Array Value).size := size28
 have hzone : (z32 : Array Value).all (·.oneCell') = true := oneCells .u8 zeros32
 have HRZ : Hid (dv zeros32 = .agg z32) := rfl
 have HRD : Hid (dv (frontOf k xs) = .agg (d.map (Value.int .u8)).toArray) := by rw [hdef]; rfl
 clear hV he hwh hex hov
 have c6 : w.cell? ⟨s, 6, none⟩ = some (.int .i64 σ.pt) := h.cell 6
 have f6 := h.fz 6
 have hsl := h.lt
 have hwp : IntKind.i64.wrap (σ.pt + 1) = σ.pt + 1 := by rw [IntKind.wrap_i64]; omega
 obtain ⟨hS1, hK1⟩ := h.set (σ' := σ.put1) 6 (.int .i64 (σ.pt + 1)) rfl rfl
 have HSA : Hid (Stor ((w.setCell ⟨s, 6, none⟩ (.int .i64 (σ.pt + 1))).alloc (.cells z32 29)) s mv σ.put1) := hS1.kept ((Kept.refl (fun _ => False) _).alloc _) (fun _ _ f => f)
 have HKA : Hid (Kept (fun k => k = s) w ((w.setCell ⟨s, 6, none⟩ (.int .i64 (σ.pt + 1))).alloc (.cells z32 29))) := hK1.alloc _
 have hsz : (w.setCell ⟨s, 6, none⟩ (.int .i64 (σ.pt + 1))).heap.size = w.heap.size := by simp [World.setCell]
 have HZA : Hid (((w.setCell ⟨s, 6, none⟩ (.int .i64 (σ.pt + 1))).alloc (.cells z32 29)).heap[w.heap.size]? = some (.cells z32 29 (0, 0))) := alloc_new _ _ hsz.symm
 have HXA := hid_of (hx.kept2 HKA.out (fun hx0 g hg => hxs hx0 g hg))
 have HLA := hid_of (laid_kept hL HKA.out (fun e => hs0 e.symm))
 clear hS1 hK1 hsz
 unfold dv at *
 clear h hx hL
 generalize (d.map (Value.int .u8)).toArray = ds at *
 go_enter Tryz.func26, Tryz.ntmps26
 go_wp2_with fail
 generalize (w.setCell ⟨s, 6, none⟩ (.int .i64 (σ.pt + 1))).alloc (.cells z32 29) = wA at *
 refine (HDIG.out wA HSA.out HLA.out HXA.out).mono ?_
 rintro e w1 ⟨rfl, hk1⟩
 have HSB : Hid (Stor (w1.alloc (.cells ds 29)) s mv σ.put1) := HSA.out.kept (hk1.alloc _) (fun _ _ f => f)
 have HKB : Hid (Kept (fun k => k = s) w (w1.alloc (.cells ds 29))) := (HKA.out.trans (hk1.mono (fun _ _ f => f.elim))).alloc _
 have HZB : Hid ((w1.alloc (.cells ds 29)).heap[w.heap.size]? = some (.cells z32 29 (0, 0))) := alloc_old ((hk1.block _ (heap_lt HZA.out) (fun f => f)).trans HZA.out)
 have HDB : Hid ((w1.alloc (.cells ds 29)).heap[w1.heap.size]? = some (.cells ds 29 (0, 0))) := alloc_new _ _ rfl
 have HXB : Hid (BIn (w1.alloc (.cells ds 29)) (.slice bo xs.length bc) xs) := HXA.out.kept2 (hk1.alloc _) (fun _ _ _ f => f)
 have HLB : Hid (Laid (w1.alloc (.cells ds 29))) := laid_kept HLA.out (hk1.alloc _) (fun f => f)
 have hb6 : w.heap.size < w1.heap.size := Nat.lt_of_lt_of_le (heap_lt HZA.out) hk1.size
 clear hk1 HDIG HSA HKA HZA HXA HLA
 go_wp2_with (refine wpList_store_row rfl 29 _ _ rfl w1.heap.size ds rfl rfl 29 _ (alloc_new _ _ rfl) hds HOS.out hone ?_; rw [setRow_new _ _ _ _ rfl])
 generalize hgb6 : w1.heap.size = b6 at *
 generalize w1.alloc (.cells ds 29) = wB at *
 clear hgb6
 try simp only [Act.put]
 have HS : Hid (∀ W, Kept (fun _ => False) wB W → W.cell? ⟨s, 2, none⟩ = some mv ∧ W.heap[b6]? = some (.cells ds 29 (0, 0)) ∧ (Instr.lookup 63 mv (.agg ds) true).run Tryz.prog W = .ok (.tuple #[.agg #[.slice ao n c, .int .i64 st], .bool true]) W) := fun W hW => by
  have hW7 := HSB.out.kept hW (fun _ _ f => f)
  exact ⟨hW7.cell 2, (hW.block _ (heap_lt HDB.out) (fun f => f)).trans HDB.out, HLK.out W hW7⟩
 refine wp_region_held_drew (S := fun w' => w'.cell? ⟨s, 2, none⟩ = some mv ∧ w'.heap[b6]? = some (.cells ds 29 (0, 0)) ∧ (Instr.lookup 63 mv (.agg ds) true).run Tryz.prog w' = .ok (.tuple #[.agg #[.slice ao n c, .int .i64 st], .bool true]) w') (by kernel_rfl) (HS.out _ ((Kept.refl _ wB).drew)) (fun hHeld => ?_)
 iterate 4
  refine tkn (v := ?_) 0 rfl ?_ ?_; rotate_left 1
  ·intro w hSw; obtain ⟨s1, s2, s3⟩ := hSw; go_simp; try with_reducible rfl
  try simp only [Act.put, tdy]
 refine tkg 4 (.agg ds) rfl (yields_row (by rfl) 29 _ rfl b6 rfl 29 ds (0, 0) _ (fun w hSw => hSw.2.1) Tryz.underlying29 rfl hds) ?_
 try simp only [Act.put, tdy]
 iterate 4
  refine tkn (v := ?_) 5 rfl ?_ ?_; rotate_left 1
  ·intro w hSw; obtain ⟨s1, s2, s3⟩ := hSw; go_simp; try with_reducible rfl
  try simp only [Act.put, tdy]
 refine wpAnyH_ready (rs := [9]) (by kernel_rfl) (by simp) ?_
 refine AllReadyH.cons rfl (fun K hK => ?_) .nil
 go_simp
 refine hK.out _ _ (HS.out _ (((Kept.refl _ wB).alloc _).drew)) (fun hHeld => ?_)
 clear hK K
 try simp only [Act.put, tdy]
 refine wpAnyH_ready (rs := [10]) (by kernel_rfl) (by simp) ?_
 refine AllReadyH.cons rfl (fun K hK => ?_) .nil
 go_simp
 refine hK.out _ _ (HS.out _ (((Kept.refl _ wB).alloc _).drew)) (fun hHeld => ?_)
 clear hK K
 try simp only [Act.put, tdy]
 refine tkp (v := ?_) 11 rfl ?_ ?_; rotate_left 1
 ·intro w hSw; obtain ⟨s1, s2, s3⟩ := hSw; go_simp; try with_reducible rfl
 try simp only [Act.put, tdy]
 refine wpAnyH_done (by kernel_rfl) ?_ _
 have hkC : Kept (fun _ => False) wB (wB.alloc (.cells #[.slice ao n c, .int .i64 st] 87)).drew := ((Kept.refl _ wB).alloc _).drew
 have HSC := hid_of (HSB.out.kept hkC (fun _ _ f => f))
 have HKC : Hid (Kept (fun k => k = s) w (wB.alloc (.cells #[.slice ao n c, .int .i64 st] 87)).drew) := HKB.out.trans (hkC.mono (fun _ _ f => f.elim))
 have HZC : Hid ((wB.alloc (.cells #[.slice ao n c, .int .i64 st] 87)).drew.heap[w.heap.size]? = some (.cells z32 29 (0, 0))) := (hkC.block _ (heap_lt HZB.out) (fun f => f)).trans HZB.out
 have HDC : Hid ((wB.alloc (.cells #[.slice ao n c, .int .i64 st] 87)).drew.heap[b6]? = some (.cells ds 29 (0, 0))) := (hkC.block _ (heap_lt HDB.out) (fun f => f)).trans HDB.out
 have HXC : Hid (BIn (wB.alloc (.cells #[.slice ao n c, .int .i64 st] 87)).drew (.slice bo xs.length bc) xs) := HXB.out.kept2 hkC (fun _ _ _ f => f)
 have HLC : Hid (Laid (wB.alloc (.cells #[.slice ao n c, .int .i64 st] 87)).drew) := laid_kept HLB.out hkC (fun f => f)
 have c5 : (wB.alloc (.cells #[.slice ao n c, .int .i64 st] 87)).drew.cell? ⟨wB.heap.size, 0, none⟩ = some (.slice ao n c) := (cell_block _ _ _ _ _ _ (alloc_new wB _ rfl)).trans rfl
 generalize hgb7 : wB.heap.size = b7 at *
 generalize (wB.alloc (.cells #[.slice ao n c, .int .i64 st] 87)).drew = wC at *
 clear hkC hgb7 HS HSB HKB HZB HDB HXB HLB HLK
 go_wp2_with fail
 refine (HEQ.out wC HSC.out HXC.out).mono ?_
 rintro e' wD ⟨rfl, hwD⟩
 have hwE := hwD.symm
 clear hwD
 subst hwE
 go_wp2_with (refine wpList_load_row rfl 29 _ rfl b6 rfl 29 ds (0, 0) _ HDC.out Tryz.underlying29 rfl hds ?_)
 skip
 refine (HWH.out wC HSC.out HLC.out).mono ?_
 rintro e' w2 ⟨rfl, hk2⟩
 have HSD := hid_of (HSC.out.kept hk2 (fun _ _ f => f))
 have HKD := hid_of (HKC.out.trans (hk2.mono (T := fun k => k = s) (fun _ _ f => f.elim)))
 have HZD := hid_of ((hk2.block _ (heap_lt HZC.out) (fun f => f)).trans HZC.out)
 have HDD := hid_of ((hk2.block _ (heap_lt HDC.out) (fun f => f)).trans HDC.out)
 have HXD := hid_of (HXC.out.kept2 hk2 (fun _ _ _ f => f))
 have HLD := hid_of (laid_kept HLC.out hk2 (fun f => f))
 clear hk2 HWH HSC HKC HZC HDC HXC HLC c5
 go_wp2_with (refine wpList_load_row rfl 29 _ rfl b6 rfl 29 ds (0, 0) _ HDD.out Tryz.underlying29 rfl hds ?_)
 refine (HLAY.out w2 HSD.out HXD.out).mono ?_
 rintro e' w3 ⟨rfl, hk3⟩
 have HSW := hid_of (HSD.out.kept hk3 (fun _ _ f => f))
 have HKW := hid_of (HKD.out.trans (hk3.mono (T := fun k => k = s) (fun _ _ f => f.elim)))
 have HZW := hid_of ((hk3.block _ (heap_lt HZD.out) (fun f => f)).trans HZD.out)
 have HDW := hid_of ((hk3.block _ (heap_lt HDD.out) (fun f => f)).trans HDD.out)
 clear hk3 HLAY HSD HKD HZD HDD HXD HLD
 have HKR : Hid (Kept (fun k => k = s) w (w3.setRow w.heap.size z32)) := HKW.out.setRow (.inl (Nat.le_refl _)) _
 have HSR : Hid (Stor (w3.setRow w.heap.size z32) s mv σ.put1) := HSW.out.setRow _ _ HZW.out ⟨by omega, HFAR.out⟩
 have HRR := hid_of (setRow_heap w3 w.heap.size _ z32 29 (0, 0) HZW.out)
 go_wp2_with (first | refine wpList_load_row rfl 29 _ rfl b6 rfl 29 ds (0, 0) _ HDW.out Tryz.underlying29 rfl hds ?_ | refine wpList_store_row rfl 29 _ _ rfl w.heap.size z32 rfl rfl 29 _ HZW.out hz28 rfl hzone ?_)
 try simp only [Act.put]
 refine bodyPost_ret (v := .tuple #[.agg z32, .int .i64 43]) ?_ rfl ⟨by rw [HRZ.out], HSR.out, HKR.out⟩
 exact results_row_tmp (fn := Tryz.f26) (p := 4) (u := 5) (by rfl) _ _ w.heap.size 29 z32 (0, 0) _ (by rfl) HRR.out Tryz.underlying29 rfl hz28
end Go.Proofs.YtjdbmjkidljhpaaGreatDoor
namespace Go.Proofs.YtjdbmjkidljhpaaGreatDoor
open Go.RowKit
set_option linter.unusedVariables false
set_option linter.unusedSimpArgs false
set_option maxRecDepth 100000
set_option maxHeartbeats 4000000 in
theorem put_ok0 {w : World} {s : Nat} {mv : Value} {σ : Sg} (h : Stor w s mv σ) (hL : Laid w) (hs0 : s ≠ 0) (k : Nat) (hk : σ.wd = k) (h1 : 1 ≤ k) (h2 : k ≤ 32) (bv : Value) (xs : List Int) (hx : BIn w bv xs) (hxr : ∀ x ∈ xs, 0 ≤ x ∧ x < 256) (hn : xs.length ≤ 1048576) (hxs : xs ≠ [] → ∀ g, bv.ownBlock = some g → g ≠ s) (hpt : 0 ≤ σ.pt) (hpt2 : σ.pt ≤ 1099511627776) (he : look σ.es (frontOf k xs) = none) (hu : 0 ≤ σ.us) (hu2 : σ.us ≤ 1099511627776) (hsp : 0 ≤ σ.sp) (hsp2 : σ.sp ≤ 1099511627776) (hov : usedOf σ (frontOf k xs) xs ≤ σ.cp) :
  Calls Tryz.prog 26 #[.pointer (some ⟨s, 0, none⟩), bv] w fun e w' => e = .returned (.tuple #[dv (frontOf k xs), .int .i64 0]) ∧ ∃ mv' σ', LayOk (w.heap.size + 1) σ.put1 σ' (frontOf k xs) xs ∧ Stor w' s mv' σ' ∧ Kept (Own s mv) w w' ∧ (mv' = mv ∨ ∃ r, mv' = .map (some r) ∧ w.heap.size ≤ r) := by
 obtain ⟨bo, bc, hbv, _, _⟩ := id hx
 subst hbv
 have hd := frontOf_len k xs h2
 obtain ⟨d, hdef⟩ : ∃ d, d = frontOf k xs := ⟨_, rfl⟩
 rw [← hdef] at hd
 have hds := size28_of d hd
 have hone := oneCells .u8 d
 have hPN : ¬ (1048576 : Int) < (xs.length : Int) := by omega
 have HOS : Hid (32 = (d.map (Value.int .u8)).toArray.size) := by show 32 = _; simp [hd]
 have HDIG : Hid (∀ W, Stor W s mv σ.put1 → Laid W → BIn W (.slice bo xs.length bc) xs → Calls Tryz.prog 37 #[.pointer (some ⟨s, 0, none⟩), .slice bo xs.length bc] W fun e w' => e = .returned (.agg (d.map (Value.int .u8)).toArray) ∧ Kept (fun _ => False) W w') := fun W hW hLW hxW => by
  have hc0 : W.cell? ⟨s, 0, none⟩ = some (.int .i64 σ.wd) := hW.cell 0
  rw [hk] at hc0
  rw [hdef]
  exact digest_cells s k h1 h2 _ xs W hc0 hLW hxW hxr (by omega)
 have hwh : wholeB k σ.es (frontOf k xs) = false := by unfold wholeB; rw [he]
 obtain ⟨ao, n, c, st, hV⟩ := h.shape d
 have HLE : Hid (look σ.es (frontOf k xs) = none) := he
 have HLK : Hid (∀ W, Stor W s mv σ.put1 → (Instr.lookup 63 mv (.agg (d.map (Value.int .u8)).toArray) true).run Tryz.prog W = .ok (.tuple #[.agg #[.slice ao n c, .int .i64 st], .bool false]) W) := fun W hW => by
  have h7 := hW.found d hd true
  have h8 : σ.put1.es = σ.es := rfl
  rw [h8, hV] at h7
  rw [hdef, HLE.out, ← hdef] at h7
  exact h7
 have HFAR : Hid (∀ e' ∈ σ.es, e'.xs ≠ [] → e'.bv.ownBlock ≠ some w.heap.size) := fun e' he' hx0 hg => by
  obtain ⟨i, u, hu⟩ := (h.blob e' he').1.lt hx0 _ hg
  obtain ⟨cc, t, f, h7⟩ := cell_cells hu
  have := heap_lt h7
  omega
 have HWH : Hid (∀ W, Stor W s mv σ.put1 → Laid W → Calls Tryz.prog 44 #[.pointer (some ⟨s, 0, none⟩), .agg (d.map (Value.int .u8)).toArray] W fun e' w' => e' = .returned (.bool (wholeB k σ.es d)) ∧ Kept (fun _ => False) W w') := fun W hW hLW => whole_any hW hLW k hk h1 h2 d hd
 rw [hdef, hwh, ← hdef] at HWH
 have HLAY : Hid (∀ W, Stor W s mv σ.put1 → BIn W (.slice bo xs.length bc) xs → Calls Tryz.prog 51 #[.pointer (some ⟨s, 0, none⟩), .agg (d.map (Value.int .u8)).toArray, .slice bo xs.length bc] W fun e' w' => e' = .returned (.int .i64 0) ∧ ∃ mv' σ', LayOk W.heap.size σ.put1 σ' d xs ∧ Stor w' s mv' σ' ∧ Kept (Own s mv) W w' ∧ (mv' = mv ∨ ∃ r, mv' = .map (some r) ∧ W.heap.size ≤ r)) := fun W hW hxW => lay_ok hW d hd (by rw [hdef]; exact front_range k xs h2) _ xs hxW hxr hn hu hu2 hsp hsp2 (by rw [hdef]; exact hov) hxs
 have hz28 : (Tryz.prog.info? 29).map (·.size) = some (z32 : Array Value).size := size28
 have hzone : (z32 : Array Value).all (·.oneCell') = true := oneCells .u8 zeros32
 have HRZ : Hid (dv zeros32 = .agg z32) := rfl
 have HRD : Hid (dv (frontOf k xs) = .agg (d.map (Value.int .u8)).toArray) := by rw [hdef]; rfl
 clear hV he hwh hov
 have c6 : w.cell? ⟨s, 6, none⟩ = some (.int .i64 σ.pt) := h.cell 6
 have f6 := h.fz 6
 have hsl := h.lt
 have hwp : IntKind.i64.wrap (σ.pt + 1) = σ.pt + 1 := by rw [IntKind.wrap_i64]; omega
 obtain ⟨hS1, hK1⟩ := h.set (σ' := σ.put1) 6 (.int .i64 (σ.pt + 1)) rfl rfl
 have HSA : Hid (Stor ((w.setCell ⟨s, 6, none⟩ (.int .i64 (σ.pt + 1))).alloc (.cells z32 29)) s mv σ.put1) := hS1.kept ((Kept.refl (fun _ => False) _).alloc _) (fun _ _ f => f)
 have HKA : Hid (Kept (fun k => k = s) w ((w.setCell ⟨s, 6, none⟩ (.int .i64 (σ.pt + 1))).alloc (.cells z32 29))) := hK1.alloc _
 have hsz : (w.setCell ⟨s, 6, none⟩ (.int .i64 (σ.pt + 1))).heap.size = w.heap.size := by simp [World.setCell]
 have HZA : Hid (((w.setCell ⟨s, 6, none⟩ (.int .i64 (σ.pt + 1))).alloc (.cells z32 29)).heap[w.heap.size]? = some (.cells z32 29 (0, 0))) := alloc_new _ _ hsz.symm
 have HXA := hid_of (hx.kept2 HKA.out (fun hx0 g hg => hxs hx0 g hg))
 have HLA := hid_of (laid_kept hL HKA.out (fun e => hs0 e.symm))
 clear hS1 hK1 hsz
 unfold dv at *
 clear h hx hL
 generalize (d.map (Value.int .u8)).toArray = ds at *
 go_enter Tryz.func26, Tryz.ntmps26
 go_wp2_with fail
 generalize (w.setCell ⟨s, 6, none⟩ (.int .i64 (σ.pt + 1))).alloc (.cells z32 29) = wA at *
 refine (HDIG.out wA HSA.out HLA.out HXA.out).mono ?_
 rintro e w1 ⟨rfl, hk1⟩
 have HSB : Hid (Stor (w1.alloc (.cells ds 29)) s mv σ.put1) := HSA.out.kept (hk1.alloc _) (fun _ _ f => f)
 have HKB : Hid (Kept (fun k => k = s) w (w1.alloc (.cells ds 29))) := (HKA.out.trans (hk1.mono (fun _ _ f => f.elim))).alloc _
 have HZB : Hid ((w1.alloc (.cells ds 29)).heap[w.heap.size]? = some (.cells z32 29 (0, 0))) := alloc_old ((hk1.block _ (heap_lt HZA.out) (fun f => f)).trans HZA.out)
 have HDB : Hid ((w1.alloc (.cells ds 29)).heap[w1.heap.size]? = some (.cells ds 29 (0, 0))) := alloc_new _ _ rfl
 have HXB : Hid (BIn (w1.alloc (.cells ds 29)) (.slice bo xs.length bc) xs) := HXA.out.kept2 (hk1.alloc _) (fun _ _ _ f => f)
 have HLB : Hid (Laid (w1.alloc (.cells ds 29))) := laid_kept HLA.out (hk1.alloc _) (fun f => f)
 have hb6 : w.heap.size < w1.heap.size := Nat.lt_of_lt_of_le (heap_lt HZA.out) hk1.size
 clear hk1 HDIG HSA HKA HZA HXA HLA
 go_wp2_with (refine wpList_store_row rfl 29 _ _ rfl w1.heap.size ds rfl rfl 29 _ (alloc_new _ _ rfl) hds HOS.out hone ?_; rw [setRow_new _ _ _ _ rfl])
 generalize hgb6 : w1.heap.size = b6 at *
 generalize w1.alloc (.cells ds 29) = wB at *
 clear hgb6
 try simp only [Act.put]
 have HS : Hid (∀ W, Kept (fun _ => False) wB W → W.cell? ⟨s, 2, none⟩ = some mv ∧ W.heap[b6]? = some (.cells ds 29 (0, 0)) ∧ (Instr.lookup 63 mv (.agg ds) true).run Tryz.prog W = .ok (.tuple #[.agg #[.slice ao n c, .int .i64 st], .bool false]) W) := fun W hW => by
  have hW7 := HSB.out.kept hW (fun _ _ f => f)
  exact ⟨hW7.cell 2, (hW.block _ (heap_lt HDB.out) (fun f => f)).trans HDB.out, HLK.out W hW7⟩
 refine wp_region_held_drew (S := fun w' => w'.cell? ⟨s, 2, none⟩ = some mv ∧ w'.heap[b6]? = some (.cells ds 29 (0, 0)) ∧ (Instr.lookup 63 mv (.agg ds) true).run Tryz.prog w' = .ok (.tuple #[.agg #[.slice ao n c, .int .i64 st], .bool false]) w') (by kernel_rfl) (HS.out _ ((Kept.refl _ wB).drew)) (fun hHeld => ?_)
 iterate 4
  refine tkn (v := ?_) 0 rfl ?_ ?_; rotate_left 1
  ·intro w hSw; obtain ⟨s1, s2, s3⟩ := hSw; go_simp; try with_reducible rfl
  try simp only [Act.put, tdy]
 refine tkg 4 (.agg ds) rfl (yields_row (by rfl) 29 _ rfl b6 rfl 29 ds (0, 0) _ (fun w hSw => hSw.2.1) Tryz.underlying29 rfl hds) ?_
 try simp only [Act.put, tdy]
 iterate 4
  refine tkn (v := ?_) 5 rfl ?_ ?_; rotate_left 1
  ·intro w hSw; obtain ⟨s1, s2, s3⟩ := hSw; go_simp; try with_reducible rfl
  try simp only [Act.put, tdy]
 refine wpAnyH_ready (rs := [9]) (by kernel_rfl) (by simp) ?_
 refine AllReadyH.cons rfl (fun K hK => ?_) .nil
 go_simp
 refine hK.out _ _ (HS.out _ (((Kept.refl _ wB).alloc _).drew)) (fun hHeld => ?_)
 clear hK K
 try simp only [Act.put, tdy]
 refine wpAnyH_ready (rs := [10]) (by kernel_rfl) (by simp) ?_
 refine AllReadyH.cons rfl (fun K hK => ?_) .nil
 go_simp
 refine hK.out _ _ (HS.out _ (((Kept.refl _ wB).alloc _).drew)) (fun hHeld => ?_)
 clear hK K
 try simp only [Act.put, tdy]
 refine tkp (v := ?_) 11 rfl ?_ ?_; rotate_left 1
 ·intro w hSw; obtain ⟨s1, s2, s3⟩ := hSw; go_simp; try with_reducible rfl
 try simp only [Act.put, tdy]
 refine wpAnyH_done (by kernel_rfl) ?_ _
 have hkC : Kept (fun _ => False) wB (wB.alloc (.cells #[.slice ao n c, .int .i64 st] 87)).drew := ((Kept.refl _ wB).alloc _).drew
 have HSC := hid_of (HSB.out.kept hkC (fun _ _ f => f))
 have HKC : Hid (Kept (fun k => k = s) w (wB.alloc (.cells #[.slice ao n c, .int .i64 st] 87)).drew) := HKB.out.trans (hkC.mono (fun _ _ f => f.elim))
 have HZC : Hid ((wB.alloc (.cells #[.slice ao n c, .int .i64 st] 87)).drew.heap[w.heap.size]? = some (.cells z32 29 (0, 0))) := (hkC.block _ (heap_lt HZB.out) (fun f => f)).trans HZB.out
 have HDC : Hid ((wB.alloc (.cells #[.slice ao n c, .int .i64 st] 87)).drew.heap[b6]? = some (.cells ds 29 (0, 0))) := (hkC.block _ (heap_lt HDB.out) (fun f => f)).trans HDB.out
 have HXC : Hid (BIn (wB.alloc (.cells #[.slice ao n c, .int .i64 st] 87)).drew (.slice bo xs.length bc) xs) := HXB.out.kept2 hkC (fun _ _ _ f => f)
 have HLC : Hid (Laid (wB.alloc (.cells #[.slice ao n c, .int .i64 st] 87)).drew) := laid_kept HLB.out hkC (fun f => f)
 have c5 : (wB.alloc (.cells #[.slice ao n c, .int .i64 st] 87)).drew.cell? ⟨wB.heap.size, 0, none⟩ = some (.slice ao n c) := (cell_block _ _ _ _ _ _ (alloc_new wB _ rfl)).trans rfl
 generalize hgb7 : wB.heap.size = b7 at *
 generalize (wB.alloc (.cells #[.slice ao n c, .int .i64 st] 87)).drew = wC at *
 clear hkC hgb7 HS HSB HKB HZB HDB HXB HLB HLK
 go_wp2_with (refine wpList_load_row rfl 29 _ rfl b6 rfl 29 ds (0, 0) _ HDC.out Tryz.underlying29 rfl hds ?_)
 skip
 refine (HWH.out wC HSC.out HLC.out).mono ?_
 rintro e' w2 ⟨rfl, hk2⟩
 have HSD := hid_of (HSC.out.kept hk2 (fun _ _ f => f))
 have HKD := hid_of (HKC.out.trans (hk2.mono (T := fun k => k = s) (fun _ _ f => f.elim)))
 have HZD := hid_of ((hk2.block _ (heap_lt HZC.out) (fun f => f)).trans HZC.out)
 have HDD := hid_of ((hk2.block _ (heap_lt HDC.out) (fun f => f)).trans HDC.out)
 have HXD := hid_of (HXC.out.kept2 hk2 (fun _ _ _ f => f))
 have HLD := hid_of (laid_kept HLC.out hk2 (fun f => f))
 clear hk2 HWH HSC HKC HZC HDC HXC HLC c5
 go_wp2_with (refine wpList_load_row rfl 29 _ rfl b6 rfl 29 ds (0, 0) _ HDD.out Tryz.underlying29 rfl hds ?_)
 refine (HLAY.out w2 HSD.out HXD.out).mono ?_
 rintro e' w3 ⟨rfl, mv', σ', hlo, hS3, hk3, hmv⟩
 have hown : ∀ q, Own s mv q → q ≠ w.heap.size ∧ q ≠ b6 := fun q hq => by
  rcases hq with hq | hq
  ·have := heap_lt HDD.out; omega
  ·rcases HSD.out.map with ⟨h7, _⟩ | ⟨r, cl, h7, h8, _⟩
   ·rw [h7] at hq; cases hq
   ·rw [h7] at hq
    cases hq
    refine ⟨fun e => ?_, fun e => ?_⟩
    ·rw [e, HZD.out] at h8; cases h8
    ·rw [e, HDD.out] at h8; cases h8
 have HZW := hid_of ((hk3.block _ (heap_lt HZD.out) (fun f => (hown _ f).1 rfl)).trans HZD.out)
 have HDW := hid_of ((hk3.block _ (heap_lt HDD.out) (fun f => (hown _ f).2 rfl)).trans HDD.out)
 have HKR : Hid (Kept (Own s mv) w (w3.setRow w.heap.size ds)) := ((HKD.out.mono (T := Own s mv) (fun _ _ f => .inl f)).trans hk3).setRow (.inl (Nat.le_refl _)) _
 have hszD := heap_lt HZD.out
 have HSR : Hid (Stor (w3.setRow w.heap.size ds) s mv' σ') := hS3.setRow _ _ HZW.out ⟨by omega, fun e' he' hx0 hg => by
  obtain ⟨bv', born, hb1, hb2⟩ := hlo
  rw [hb2] at he'
  rcases lays_mem _ _ _ he' with h7 | ⟨b, h7⟩
  ·exact HFAR.out e' h7 hx0 hg
  ·rw [h7] at hg
   have := hb1 _ hg
   omega⟩
 have HLO : Hid (LayOk (w.heap.size + 1) σ.put1 σ' (frontOf k xs) xs) := by
  obtain ⟨bv', born, hb1, hb2⟩ := hlo
  rw [hdef] at hb2
  exact ⟨bv', born, fun g hg => by have := hb1 g hg; omega, hb2⟩
 have HMV : Hid (mv' = mv ∨ ∃ r, mv' = .map (some r) ∧ w.heap.size ≤ r) := by
  rcases hmv with h7 | ⟨r, h7, h8⟩
  ·exact .inl h7
  ·exact .inr ⟨r, h7, by omega⟩
 have HRR := hid_of (setRow_heap w3 w.heap.size _ ds 29 (0, 0) HZW.out)
 clear hown hlo hS3 hk3 hmv HLAY HSD HKD HZD HDD HXD HLD hszD
 go_wp2_with (first | refine wpList_load_row rfl 29 _ rfl b6 rfl 29 ds (0, 0) _ HDW.out Tryz.underlying29 rfl hds ?_ | refine wpList_store_row rfl 29 _ _ rfl w.heap.size ds rfl rfl 29 _ HZW.out hds HOS.out hone ?_)
 try simp only [Act.put]
 refine bodyPost_ret (v := .tuple #[.agg ds, .int .i64 0]) ?_ rfl ⟨by rw [HRD.out], mv', σ', HLO.out, HSR.out, HKR.out, HMV.out⟩
 exact results_row_tmp (fn := Tryz.f26) (p := 4) (u := 5) (by rfl) _ _ w.heap.size 29 ds (0, 0) _ (by rfl) HRR.out Tryz.underlying29 rfl hds
end Go.Proofs.YtjdbmjkidljhpaaGreatDoor
namespace Go.Proofs.YtjdbmjkidljhpaaGreatDoor
open Go.RowKit
set_option linter.unusedVariables false
set_option linter.unusedSimpArgs false
set_option maxRecDepth 100000
set_option maxHeartbeats 4000000 in
theorem put_ok1 {w : World} {s : Nat} {mv : Value} {σ : Sg} (h : Stor w s mv σ) (hL : Laid w) (hs0 : s ≠ 0) (k : Nat) (hk : σ.wd = k) (h1 : 1 ≤ k) (h2 : k ≤ 32) (bv : Value) (xs : List Int) (hx : BIn w bv xs) (hxr : ∀ x ∈ xs, 0 ≤ x ∧ x < 256) (hn : xs.length ≤ 1048576) (hxs : xs ≠ [] → ∀ g, bv.ownBlock = some g → g ≠ s) (hpt : 0 ≤ σ.pt) (hpt2 : σ.pt ≤ 1099511627776) (e : En) (he : look σ.es (frontOf k xs) = some e) (hex : e.xs ≠ xs) (hwh : wholeB k σ.es (frontOf k xs) = false) (hu : 0 ≤ σ.us) (hu2 : σ.us ≤ 1099511627776) (hsp : 0 ≤ σ.sp) (hsp2 : σ.sp ≤ 1099511627776) (hov : usedOf σ (frontOf k xs) xs ≤ σ.cp) :
  Calls Tryz.prog 26 #[.pointer (some ⟨s, 0, none⟩), bv] w fun e w' => e = .returned (.tuple #[dv (frontOf k xs), .int .i64 0]) ∧ ∃ mv' σ', LayOk (w.heap.size + 1) σ.put1 σ' (frontOf k xs) xs ∧ Stor w' s mv' σ' ∧ Kept (Own s mv) w w' ∧ (mv' = mv ∨ ∃ r, mv' = .map (some r) ∧ w.heap.size ≤ r) := by
 obtain ⟨bo, bc, hbv, _, _⟩ := id hx
 subst hbv
 have hd := frontOf_len k xs h2
 obtain ⟨d, hdef⟩ : ∃ d, d = frontOf k xs := ⟨_, rfl⟩
 rw [← hdef] at hd
 have hds := size28_of d hd
 have hone := oneCells .u8 d
 have hPN : ¬ (1048576 : Int) < (xs.length : Int) := by omega
 have HOS : Hid (32 = (d.map (Value.int .u8)).toArray.size) := by show 32 = _; simp [hd]
 have HDIG : Hid (∀ W, Stor W s mv σ.put1 → Laid W → BIn W (.slice bo xs.length bc) xs → Calls Tryz.prog 37 #[.pointer (some ⟨s, 0, none⟩), .slice bo xs.length bc] W fun e w' => e = .returned (.agg (d.map (Value.int .u8)).toArray) ∧ Kept (fun _ => False) W w') := fun W hW hLW hxW => by
  have hc0 : W.cell? ⟨s, 0, none⟩ = some (.int .i64 σ.wd) := hW.cell 0
  rw [hk] at hc0
  rw [hdef]
  exact digest_cells s k h1 h2 _ xs W hc0 hLW hxW hxr (by omega)
 obtain ⟨ao, n, c, st, hV⟩ := h.shape d
 have HLE : Hid (look σ.es (frontOf k xs) = some e) := he
 have HLK : Hid (∀ W, Stor W s mv σ.put1 → (Instr.lookup 63 mv (.agg (d.map (Value.int .u8)).toArray) true).run Tryz.prog W = .ok (.tuple #[.agg #[.slice ao n c, .int .i64 st], .bool true]) W) := fun W hW => by
  have h7 := hW.found d hd true
  have h8 : σ.put1.es = σ.es := rfl
  rw [h8, hV] at h7
  rw [hdef, HLE.out, ← hdef] at h7
  exact h7
 have HBVE : Hid (Value.slice ao n c = e.bv) := by
  show Value.slice ao n c = e.bv
  unfold lookV at hV
  rw [hdef, HLE.out] at hV
  have hV2 : Value.agg #[e.bv, .int .i64 e.st] = .agg #[.slice ao n c, .int .i64 st] := hV
  injection hV2 with hV2
  have := congrArg (fun a => a[0]?) hV2
  simpa using this.symm
 have HEM : Hid (e ∈ σ.es) := (look_mem _ _ _ he).1
 have HEQ : Hid (∀ W, Stor W s mv σ.put1 → BIn W (.slice bo xs.length bc) xs → Calls Tryz.prog 50 #[.slice ao n c, .slice bo xs.length bc] W fun e' w' => e' = .returned (.bool (decide (e.xs = xs))) ∧ w' = W) := fun W hW hxW => by
  have hb := hW.blob e HEM.out
  rw [HBVE.out]
  exact equal_any _ _ _ _ W hb.1 hxW hb.2.1 hxr
 rw [decide_eq_false hex] at HEQ
 have HFAR : Hid (∀ e' ∈ σ.es, e'.xs ≠ [] → e'.bv.ownBlock ≠ some w.heap.size) := fun e' he' hx0 hg => by
  obtain ⟨i, u, hu⟩ := (h.blob e' he').1.lt hx0 _ hg
  obtain ⟨cc, t, f, h7⟩ := cell_cells hu
  have := heap_lt h7
  omega
 have HWH : Hid (∀ W, Stor W s mv σ.put1 → Laid W → Calls Tryz.prog 44 #[.pointer (some ⟨s, 0, none⟩), .agg (d.map (Value.int .u8)).toArray] W fun e' w' => e' = .returned (.bool (wholeB k σ.es d)) ∧ Kept (fun _ => False) W w') := fun W hW hLW => whole_any hW hLW k hk h1 h2 d hd
 rw [hdef, hwh, ← hdef] at HWH
 have HLAY : Hid (∀ W, Stor W s mv σ.put1 → BIn W (.slice bo xs.length bc) xs → Calls Tryz.prog 51 #[.pointer (some ⟨s, 0, none⟩), .agg (d.map (Value.int .u8)).toArray, .slice bo xs.length bc] W fun e' w' => e' = .returned (.int .i64 0) ∧ ∃ mv' σ', LayOk W.heap.size σ.put1 σ' d xs ∧ Stor w' s mv' σ' ∧ Kept (Own s mv) W w' ∧ (mv' = mv ∨ ∃ r, mv' = .map (some r) ∧ W.heap.size ≤ r)) := fun W hW hxW => lay_ok hW d hd (by rw [hdef]; exact front_range k xs h2) _ xs hxW hxr hn hu hu2 hsp hsp2 (by rw [hdef]; exact hov) hxs
 have hz28 : (Tryz.prog.info? 29).map (·.size) = some (z32 : Array Value).size := size28
 have hzone : (z32 : Array Value).all (·.oneCell') = true := oneCells .u8 zeros32
 have HRZ : Hid (dv zeros32 = .agg z32) := rfl
 have HRD : Hid (dv (frontOf k xs) = .agg (d.map (Value.int .u8)).toArray) := by rw [hdef]; rfl
 clear hV he hwh hex hov
 have c6 : w.cell? ⟨s, 6, none⟩ = some (.int .i64 σ.pt) := h.cell 6
 have f6 := h.fz 6
 have hsl := h.lt
 have hwp : IntKind.i64.wrap (σ.pt + 1) = σ.pt + 1 := by rw [IntKind.wrap_i64]; omega
 obtain ⟨hS1, hK1⟩ := h.set (σ' := σ.put1) 6 (.int .i64 (σ.pt + 1)) rfl rfl
 have HSA : Hid (Stor ((w.setCell ⟨s, 6, none⟩ (.int .i64 (σ.pt + 1))).alloc (.cells z32 29)) s mv σ.put1) := hS1.kept ((Kept.refl (fun _ => False) _).alloc _) (fun _ _ f => f)
 have HKA : Hid (Kept (fun k => k = s) w ((w.setCell ⟨s, 6, none⟩ (.int .i64 (σ.pt + 1))).alloc (.cells z32 29))) := hK1.alloc _
 have hsz : (w.setCell ⟨s, 6, none⟩ (.int .i64 (σ.pt + 1))).heap.size = w.heap.size := by simp [World.setCell]
 have HZA : Hid (((w.setCell ⟨s, 6, none⟩ (.int .i64 (σ.pt + 1))).alloc (.cells z32 29)).heap[w.heap.size]? = some (.cells z32 29 (0, 0))) := alloc_new _ _ hsz.symm
 have HXA := hid_of (hx.kept2 HKA.out (fun hx0 g hg => hxs hx0 g hg))
 have HLA := hid_of (laid_kept hL HKA.out (fun e => hs0 e.symm))
 clear hS1 hK1 hsz
 unfold dv at *
 clear h hx hL
 generalize (d.map (Value.int .u8)).toArray = ds at *
 go_enter Tryz.func26, Tryz.ntmps26
 go_wp2_with fail
 generalize (w.setCell ⟨s, 6, none⟩ (.int .i64 (σ.pt + 1))).alloc (.cells z32 29) = wA at *
 refine (HDIG.out wA HSA.out HLA.out HXA.out).mono ?_
 rintro e w1 ⟨rfl, hk1⟩
 have HSB : Hid (Stor (w1.alloc (.cells ds 29)) s mv σ.put1) := HSA.out.kept (hk1.alloc _) (fun _ _ f => f)
 have HKB : Hid (Kept (fun k => k = s) w (w1.alloc (.cells ds 29))) := (HKA.out.trans (hk1.mono (fun _ _ f => f.elim))).alloc _
 have HZB : Hid ((w1.alloc (.cells ds 29)).heap[w.heap.size]? = some (.cells z32 29 (0, 0))) := alloc_old ((hk1.block _ (heap_lt HZA.out) (fun f => f)).trans HZA.out)
 have HDB : Hid ((w1.alloc (.cells ds 29)).heap[w1.heap.size]? = some (.cells ds 29 (0, 0))) := alloc_new _ _ rfl
 have HXB : Hid (BIn (w1.alloc (.cells ds 29)) (.slice bo xs.length bc) xs) := HXA.out.kept2 (hk1.alloc _) (fun _ _ _ f => f)
 have HLB : Hid (Laid (w1.alloc (.cells ds 29))) := laid_kept HLA.out (hk1.alloc _) (fun f => f)
 have hb6 : w.heap.size < w1.heap.size := Nat.lt_of_lt_of_le (heap_lt HZA.out) hk1.size
 clear hk1 HDIG HSA HKA HZA HXA HLA
 go_wp2_with (refine wpList_store_row rfl 29 _ _ rfl w1.heap.size ds rfl rfl 29 _ (alloc_new _ _ rfl) hds HOS.out hone ?_; rw [setRow_new _ _ _ _ rfl])
 generalize hgb6 : w1.heap.size = b6 at *
 generalize w1.alloc (.cells ds 29) = wB at *
 clear hgb6
 try simp only [Act.put]
 have HS : Hid (∀ W, Kept (fun _ => False) wB W → W.cell? ⟨s, 2, none⟩ = some mv ∧ W.heap[b6]? = some (.cells ds 29 (0, 0)) ∧ (Instr.lookup 63 mv (.agg ds) true).run Tryz.prog W = .ok (.tuple #[.agg #[.slice ao n c, .int .i64 st], .bool true]) W) := fun W hW => by
  have hW7 := HSB.out.kept hW (fun _ _ f => f)
  exact ⟨hW7.cell 2, (hW.block _ (heap_lt HDB.out) (fun f => f)).trans HDB.out, HLK.out W hW7⟩
 refine wp_region_held_drew (S := fun w' => w'.cell? ⟨s, 2, none⟩ = some mv ∧ w'.heap[b6]? = some (.cells ds 29 (0, 0)) ∧ (Instr.lookup 63 mv (.agg ds) true).run Tryz.prog w' = .ok (.tuple #[.agg #[.slice ao n c, .int .i64 st], .bool true]) w') (by kernel_rfl) (HS.out _ ((Kept.refl _ wB).drew)) (fun hHeld => ?_)
 iterate 4
  refine tkn (v := ?_) 0 rfl ?_ ?_; rotate_left 1
  ·intro w hSw; obtain ⟨s1, s2, s3⟩ := hSw; go_simp; try with_reducible rfl
  try simp only [Act.put, tdy]
 refine tkg 4 (.agg ds) rfl (yields_row (by rfl) 29 _ rfl b6 rfl 29 ds (0, 0) _ (fun w hSw => hSw.2.1) Tryz.underlying29 rfl hds) ?_
 try simp only [Act.put, tdy]
 iterate 4
  refine tkn (v := ?_) 5 rfl ?_ ?_; rotate_left 1
  ·intro w hSw; obtain ⟨s1, s2, s3⟩ := hSw; go_simp; try with_reducible rfl
  try simp only [Act.put, tdy]
 refine wpAnyH_ready (rs := [9]) (by kernel_rfl) (by simp) ?_
 refine AllReadyH.cons rfl (fun K hK => ?_) .nil
 go_simp
 refine hK.out _ _ (HS.out _ (((Kept.refl _ wB).alloc _).drew)) (fun hHeld => ?_)
 clear hK K
 try simp only [Act.put, tdy]
 refine wpAnyH_ready (rs := [10]) (by kernel_rfl) (by simp) ?_
 refine AllReadyH.cons rfl (fun K hK => ?_) .nil
 go_simp
 refine hK.out _ _ (HS.out _ (((Kept.refl _ wB).alloc _).drew)) (fun hHeld => ?_)
 clear hK K
 try simp only [Act.put, tdy]
 refine tkp (v := ?_) 11 rfl ?_ ?_; rotate_left 1
 ·intro w hSw; obtain ⟨s1, s2, s3⟩ := hSw; go_simp; try with_reducible rfl
 try simp only [Act.put, tdy]
 refine wpAnyH_done (by kernel_rfl) ?_ _
 have hkC : Kept (fun _ => False) wB (wB.alloc (.cells #[.slice ao n c, .int .i64 st] 87)).drew := ((Kept.refl _ wB).alloc _).drew
 have HSC := hid_of (HSB.out.kept hkC (fun _ _ f => f))
 have HKC : Hid (Kept (fun k => k = s) w (wB.alloc (.cells #[.slice ao n c, .int .i64 st] 87)).drew) := HKB.out.trans (hkC.mono (fun _ _ f => f.elim))
 have HZC : Hid ((wB.alloc (.cells #[.slice ao n c, .int .i64 st] 87)).drew.heap[w.heap.size]? = some (.cells z32 29 (0, 0))) := (hkC.block _ (heap_lt HZB.out) (fun f => f)).trans HZB.out
 have HDC : Hid ((wB.alloc (.cells #[.slice ao n c, .int .i64 st] 87)).drew.heap[b6]? = some (.cells ds 29 (0, 0))) := (hkC.block _ (heap_lt HDB.out) (fun f => f)).trans HDB.out
 have HXC : Hid (BIn (wB.alloc (.cells #[.slice ao n c, .int .i64 st] 87)).drew (.slice bo xs.length bc) xs) := HXB.out.kept2 hkC (fun _ _ _ f => f)
 have HLC : Hid (Laid (wB.alloc (.cells #[.slice ao n c, .int .i64 st] 87)).drew) := laid_kept HLB.out hkC (fun f => f)
 have c5 : (wB.alloc (.cells #[.slice ao n c, .int .i64 st] 87)).drew.cell? ⟨wB.heap.size, 0, none⟩ = some (.slice ao n c) := (cell_block _ _ _ _ _ _ (alloc_new wB _ rfl)).trans rfl
 generalize hgb7 : wB.heap.size = b7 at *
 generalize (wB.alloc (.cells #[.slice ao n c, .int .i64 st] 87)).drew = wC at *
 clear hkC hgb7 HS HSB HKB HZB HDB HXB HLB HLK
 go_wp2_with fail
 refine (HEQ.out wC HSC.out HXC.out).mono ?_
 rintro e' wD ⟨rfl, hwD⟩
 have hwE := hwD.symm
 clear hwD
 subst hwE
 go_wp2_with (refine wpList_load_row rfl 29 _ rfl b6 rfl 29 ds (0, 0) _ HDC.out Tryz.underlying29 rfl hds ?_)
 skip
 refine (HWH.out wC HSC.out HLC.out).mono ?_
 rintro e' w2 ⟨rfl, hk2⟩
 have HSD := hid_of (HSC.out.kept hk2 (fun _ _ f => f))
 have HKD := hid_of (HKC.out.trans (hk2.mono (T := fun k => k = s) (fun _ _ f => f.elim)))
 have HZD := hid_of ((hk2.block _ (heap_lt HZC.out) (fun f => f)).trans HZC.out)
 have HDD := hid_of ((hk2.block _ (heap_lt HDC.out) (fun f => f)).trans HDC.out)
 have HXD := hid_of (HXC.out.kept2 hk2 (fun _ _ _ f => f))
 have HLD := hid_of (laid_kept HLC.out hk2 (fun f => f))
 clear hk2 HWH HSC HKC HZC HDC HXC HLC c5
 go_wp2_with (refine wpList_load_row rfl 29 _ rfl b6 rfl 29 ds (0, 0) _ HDD.out Tryz.underlying29 rfl hds ?_)
 refine (HLAY.out w2 HSD.out HXD.out).mono ?_
 rintro e' w3 ⟨rfl, mv', σ', hlo, hS3, hk3, hmv⟩
 have hown : ∀ q, Own s mv q → q ≠ w.heap.size ∧ q ≠ b6 := fun q hq => by
  rcases hq with hq | hq
  ·have := heap_lt HDD.out; omega
  ·rcases HSD.out.map with ⟨h7, _⟩ | ⟨r, cl, h7, h8, _⟩
   ·rw [h7] at hq; cases hq
   ·rw [h7] at hq
    cases hq
    refine ⟨fun e => ?_, fun e => ?_⟩
    ·rw [e, HZD.out] at h8; cases h8
    ·rw [e, HDD.out] at h8; cases h8
 have HZW := hid_of ((hk3.block _ (heap_lt HZD.out) (fun f => (hown _ f).1 rfl)).trans HZD.out)
 have HDW := hid_of ((hk3.block _ (heap_lt HDD.out) (fun f => (hown _ f).2 rfl)).trans HDD.out)
 have HKR : Hid (Kept (Own s mv) w (w3.setRow w.heap.size ds)) := ((HKD.out.mono (T := Own s mv) (fun _ _ f => .inl f)).trans hk3).setRow (.inl (Nat.le_refl _)) _
 have hszD := heap_lt HZD.out
 have HSR : Hid (Stor (w3.setRow w.heap.size ds) s mv' σ') := hS3.setRow _ _ HZW.out ⟨by omega, fun e' he' hx0 hg => by
  obtain ⟨bv', born, hb1, hb2⟩ := hlo
  rw [hb2] at he'
  rcases lays_mem _ _ _ he' with h7 | ⟨b, h7⟩
  ·exact HFAR.out e' h7 hx0 hg
  ·rw [h7] at hg
   have := hb1 _ hg
   omega⟩
 have HLO : Hid (LayOk (w.heap.size + 1) σ.put1 σ' (frontOf k xs) xs) := by
  obtain ⟨bv', born, hb1, hb2⟩ := hlo
  rw [hdef] at hb2
  exact ⟨bv', born, fun g hg => by have := hb1 g hg; omega, hb2⟩
 have HMV : Hid (mv' = mv ∨ ∃ r, mv' = .map (some r) ∧ w.heap.size ≤ r) := by
  rcases hmv with h7 | ⟨r, h7, h8⟩
  ·exact .inl h7
  ·exact .inr ⟨r, h7, by omega⟩
 have HRR := hid_of (setRow_heap w3 w.heap.size _ ds 29 (0, 0) HZW.out)
 clear hown hlo hS3 hk3 hmv HLAY HSD HKD HZD HDD HXD HLD hszD
 go_wp2_with (first | refine wpList_load_row rfl 29 _ rfl b6 rfl 29 ds (0, 0) _ HDW.out Tryz.underlying29 rfl hds ?_ | refine wpList_store_row rfl 29 _ _ rfl w.heap.size ds rfl rfl 29 _ HZW.out hds HOS.out hone ?_)
 try simp only [Act.put]
 refine bodyPost_ret (v := .tuple #[.agg ds, .int .i64 0]) ?_ rfl ⟨by rw [HRD.out], mv', σ', HLO.out, HSR.out, HKR.out, HMV.out⟩
 exact results_row_tmp (fn := Tryz.f26) (p := 4) (u := 5) (by rfl) _ _ w.heap.size 29 ds (0, 0) _ (by rfl) HRR.out Tryz.underlying29 rfl hds
end Go.Proofs.YtjdbmjkidljhpaaGreatDoor

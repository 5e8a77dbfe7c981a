/-
  Store.lay, by contract.
-/
import Derived.Test.YtjdbmjkidljhpaaDoorCsteps
namespace Go.Proofs.YtjdbmjkidljhpaaDoor
open Go.RowKit
set_option linter.unusedVariables false
set_option linter.unusedSimpArgs false
set_option maxRecDepth 100000

set_option maxHeartbeats 4000000 in
theorem lay_full {w : World} {s : Nat} {mv : Value} {σ : Sg} (h : Stor w s mv σ) (d : List Int) (hd : d.length = 32) (bv : Value) (xs : List Int) (hx : BIn w bv xs) (hn : xs.length ≤ 1048576) (hu : 0 ≤ σ.us) (hu2 : σ.us ≤ 1099511627776) (hov : σ.cp < usedOf σ d xs) :
    Calls Tryd.prog 30 #[.pointer (some ⟨s, 0, none⟩), dv d, bv] w fun e w' => e = .returned (.int .i64 43) ∧ Kept (fun _ => False) w w' := by
  obtain ⟨bo, bc, hbv, _, _⟩ := id hx
  subst hbv
  obtain ⟨ao, n, c, st, hV⟩ := h.shape d
  have hds := size28_of d hd
  have HL2 : Hid (∀ W, Kept (fun _ => False) w W → (Instr.lookup 59 mv (.agg (d.map (Value.int .u8)).toArray) true).run Tryd.prog W = .ok (.tuple #[.agg #[.slice ao n c, .int .i64 st], .bool (look σ.es d).isSome]) W) := fun W hW => by
    have := h.lookw d hd true W hW
    rw [hV] at this
    exact this
  have HM : Hid (w.cell? ⟨s, 2, none⟩ = some mv) := h.cell 2
  have HU : Hid (w.cell? ⟨s, 3, none⟩ = some (.int .i64 σ.us)) := h.cell 3
  have HCP : Hid (w.cell? ⟨s, 1, none⟩ = some (.int .i64 σ.cp)) := h.cell 1
  have HN : Hid (match look σ.es d with | some e => n = e.xs.length | none => n = 0 ∧ ao = none) := by
    show match look σ.es d with | some e => n = e.xs.length | none => n = 0 ∧ ao = none
    unfold lookV at hV
    cases hl : look σ.es d with
    | none =>
      rw [hl] at hV
      unfold noLaid at hV
      injection hV with hV
      have := congrArg (fun a => a[0]?) hV
      simp at this
      exact ⟨this.2.1.symm, this.1.symm⟩
    | some e =>
      rw [hl] at hV
      obtain ⟨eo, ec, he, _⟩ := (h.blob e (look_mem _ _ _ hl).1).1
      have hV2 : Value.agg #[e.bv, .int .i64 e.st] = .agg #[.slice ao n c, .int .i64 st] := hV
      rw [he] at hV2
      injection hV2 with hV2
      have := congrArg (fun a => a[0]?) hV2
      simp at this
      exact this.2.1.symm
  have HE : Hid (∀ e, look σ.es d = some e → e.xs.length ≤ 1048576) := fun e he => (h.blob e (look_mem _ _ _ he).1).2.2.1
  unfold usedOf at hov
  unfold dv
  clear h hV hx
  generalize (d.map (Value.int .u8)).toArray = ds at *
  cases hl : look σ.es d with
  | none =>
    rw [hl] at HL2 HN hov
    have hov2 : σ.cp < σ.us + ((xs.length : Int) + 32) := by simpa using hov
    clear hov HE hl HN
    have HS : Hid (∀ W, Kept (fun _ => False) (w.alloc (.cells ds 28)) W → W.cell? ⟨s, 2, none⟩ = some mv ∧ W.heap[w.heap.size]? = some (.cells ds 28 (0, 0)) ∧ (Instr.lookup 59 mv (.agg ds) true).run Tryd.prog W = .ok (.tuple #[.agg #[.slice ao n c, .int .i64 st], .bool false]) W) := fun W hW =>
      ⟨hW.cell ((Kept.refl (fun _ => False) w).alloc _ |>.cell HM.out (fun f => f)) (fun f => f), (hW.block _ (by simp) (fun f => f)).trans (alloc_new _ _ rfl), HL2.out W (((Kept.refl (fun _ => False) w).alloc _).trans hW)⟩
    have HKA : Hid (Kept (fun _ => False) w (w.alloc (.cells ds 28))) := (Kept.refl _ w).alloc _
    have cU := HKA.out.cell HU.out (fun f => f)
    have w1 : IntKind.i64.wrap (σ.us + ((xs.length : Int) + 32)) = σ.us + ((xs.length : Int) + 32) := by rw [IntKind.wrap_i64]; omega
    go_enter Tryd.func30, Tryd.ntmps30
    go_wp2
    generalize w.alloc (.cells ds 28) = wA at *
    refine wp_region_held_drew (S := fun w' => w'.cell? ⟨s, 3, none⟩ = some (.int .i64 σ.us)) (by kernel_rfl) cU (fun hHeld => ?_)
    refine wpAnyH_take (i := 0) (v := ?_) rfl (by kernel_rfl) (by kernel_rfl) (by kernel_rfl) (fun _ _ _ h => h) (Or.inl ⟨by rfl, ?_⟩) (by assumption) ?_
    rotate_left 1
    · intro w hSw
      go_simp
      try with_reducible rfl
    try simp only [Act.put, List.getElem_toArray, List.getElem_cons_zero, List.getElem_cons_succ, List.setIfInBounds_toArray, List.set_cons_zero, List.set_cons_succ]
    refine wpAnyH_take (i := 1) (v := ?_) rfl (by kernel_rfl) (by kernel_rfl) (by kernel_rfl) (fun _ _ _ h => h) (Or.inl ⟨by rfl, ?_⟩) (by assumption) ?_
    rotate_left 1
    · intro w hSw
      go_simp
      try with_reducible rfl
    try simp only [Act.put, List.getElem_toArray, List.getElem_cons_zero, List.getElem_cons_succ, List.setIfInBounds_toArray, List.set_cons_zero, List.set_cons_succ]
    refine wpAnyH_take (i := 2) (v := ?_) rfl (by kernel_rfl) (by kernel_rfl) (by kernel_rfl) (fun _ _ _ h => h) (Or.inl ⟨by rfl, ?_⟩) (by assumption) ?_
    rotate_left 1
    · intro w hSw
      go_simp
      try with_reducible rfl
    try simp only [Act.put, List.getElem_toArray, List.getElem_cons_zero, List.getElem_cons_succ, List.setIfInBounds_toArray, List.set_cons_zero, List.set_cons_succ]
    refine wpAnyH_take (i := 3) (v := ?_) rfl (by kernel_rfl) (by kernel_rfl) (by kernel_rfl) (fun _ _ _ h => h) (Or.inl ⟨by rfl, ?_⟩) (by assumption) ?_
    rotate_left 1
    · intro w hSw
      go_simp
      try with_reducible rfl
    try simp only [Act.put, List.getElem_toArray, List.getElem_cons_zero, List.getElem_cons_succ, List.setIfInBounds_toArray, List.set_cons_zero, List.set_cons_succ]
    refine wpAnyH_take (i := 4) (v := ?_) rfl (by kernel_rfl) (by kernel_rfl) (by kernel_rfl) (fun _ _ _ h => h) (Or.inl ⟨by rfl, ?_⟩) (by assumption) ?_
    rotate_left 1
    · intro w hSw
      go_simp
      try with_reducible rfl
    try simp only [Act.put, List.getElem_toArray, List.getElem_cons_zero, List.getElem_cons_succ, List.setIfInBounds_toArray, List.set_cons_zero, List.set_cons_succ]
    refine wpAnyH_ready (rs := [5]) (by kernel_rfl) (by simp) ?_
    refine AllReadyH.cons rfl (fun K hK => ?_) AllReadyH.nil
    go_simp
    refine (cost_any _ _ _ _ (by omega)).mono ?_
    rintro e w' ⟨rfl, rfl⟩
    refine hK.out _ _ cU (fun hHeld => ?_)
    clear hK K
    try simp only [Act.put, List.getElem_toArray, List.getElem_cons_zero, List.getElem_cons_succ, List.setIfInBounds_toArray, List.set_cons_zero, List.set_cons_succ]
    refine wpAnyH_take (i := 6) (v := ?_) rfl (by kernel_rfl) (by kernel_rfl) (by kernel_rfl) (fun _ _ _ h => h) (Or.inl ⟨by rfl, ?_⟩) (by assumption) ?_
    rotate_left 1
    · intro w hSw
      go_simp
      try with_reducible rfl
    try simp only [Act.put, List.getElem_toArray, List.getElem_cons_zero, List.getElem_cons_succ, List.setIfInBounds_toArray, List.set_cons_zero, List.set_cons_succ]
    refine wpAnyH_take (i := 7) (v := ?_) rfl (by kernel_rfl) (by kernel_rfl) (by kernel_rfl) (fun _ _ _ h => h) (Or.inl ⟨by rfl, ?_⟩) (by assumption) ?_
    rotate_left 1
    · intro w hSw
      go_simp
      try with_reducible rfl
    try simp only [Act.put, List.getElem_toArray, List.getElem_cons_zero, List.getElem_cons_succ, List.setIfInBounds_toArray, List.set_cons_zero, List.set_cons_succ]
    refine wpAnyH_done (by kernel_rfl) ?_ _
    go_wp2
    have HSB : Hid (∀ W, Kept (fun _ => False) wA.drew W → W.cell? ⟨s, 2, none⟩ = some mv ∧ W.heap[w.heap.size]? = some (.cells ds 28 (0, 0)) ∧ (Instr.lookup 59 mv (.agg ds) true).run Tryd.prog W = .ok (.tuple #[.agg #[.slice ao n c, .int .i64 st], .bool false]) W) := fun W hW => HS.out W ((Kept.refl _ wA).drew.trans hW)
    have HKB : Hid (Kept (fun _ => False) w wA.drew) := HKA.out.drew
    clear HS HKA cU
    generalize wA.drew = wB at *
    have HS := HSB
    clear HSB
    refine wp_region_held_drew (S := fun w' => w'.cell? ⟨s, 2, none⟩ = some mv ∧ w'.heap[w.heap.size]? = some (.cells ds 28 (0, 0)) ∧ (Instr.lookup 59 mv (.agg ds) true).run Tryd.prog w' = .ok (.tuple #[.agg #[.slice ao n c, .int .i64 st], .bool false]) w') (by kernel_rfl) (HS.out _ ((Kept.refl _ wB).drew)) (fun hHeld => ?_)
    refine wpAnyH_take (i := 0) (v := ?_) rfl (by kernel_rfl) (by kernel_rfl) (by kernel_rfl) (fun _ _ _ h => h) (Or.inl ⟨by rfl, ?_⟩) (by assumption) ?_
    rotate_left 1
    · intro w hSw
      obtain ⟨s1, s2, s3⟩ := hSw
      go_simp
      try with_reducible rfl
    try simp only [Act.put, List.getElem_toArray, List.getElem_cons_zero, List.getElem_cons_succ, List.setIfInBounds_toArray, List.set_cons_zero, List.set_cons_succ]
    refine wpAnyH_take (i := 1) (v := ?_) rfl (by kernel_rfl) (by kernel_rfl) (by kernel_rfl) (fun _ _ _ h => h) (Or.inl ⟨by rfl, ?_⟩) (by assumption) ?_
    rotate_left 1
    · intro w hSw
      obtain ⟨s1, s2, s3⟩ := hSw
      go_simp
      try with_reducible rfl
    try simp only [Act.put, List.getElem_toArray, List.getElem_cons_zero, List.getElem_cons_succ, List.setIfInBounds_toArray, List.set_cons_zero, List.set_cons_succ]
    refine wpAnyH_take (i := 2) (v := ?_) rfl (by kernel_rfl) (by kernel_rfl) (by kernel_rfl) (fun _ _ _ h => h) (Or.inl ⟨by rfl, ?_⟩) (by assumption) ?_
    rotate_left 1
    · intro w hSw
      obtain ⟨s1, s2, s3⟩ := hSw
      go_simp
      try with_reducible rfl
    try simp only [Act.put, List.getElem_toArray, List.getElem_cons_zero, List.getElem_cons_succ, List.setIfInBounds_toArray, List.set_cons_zero, List.set_cons_succ]
    refine wpAnyH_take (i := 3) (v := ?_) rfl (by kernel_rfl) (by kernel_rfl) (by kernel_rfl) (fun _ _ _ h => h) (Or.inl ⟨by rfl, ?_⟩) (by assumption) ?_
    rotate_left 1
    · intro w hSw
      obtain ⟨s1, s2, s3⟩ := hSw
      go_simp
      try with_reducible rfl
    try simp only [Act.put, List.getElem_toArray, List.getElem_cons_zero, List.getElem_cons_succ, List.setIfInBounds_toArray, List.set_cons_zero, List.set_cons_succ]
    refine wpAnyH_take (i := 4) (v := .agg ds) rfl (by kernel_rfl) (by kernel_rfl) (by kernel_rfl) (fun _ _ _ h => h) (yields_row (by rfl) 28 _ rfl w.heap.size rfl 28 ds (0, 0) _ (fun w hSw => hSw.2.1) Tryd.underlying28 rfl hds) (by assumption) ?_
    try simp only [Act.put, List.getElem_toArray, List.getElem_cons_zero, List.getElem_cons_succ, List.setIfInBounds_toArray, List.set_cons_zero, List.set_cons_succ]
    refine wpAnyH_take (i := 5) (v := ?_) rfl (by kernel_rfl) (by kernel_rfl) (by kernel_rfl) (fun _ _ _ h => h) (Or.inl ⟨by rfl, ?_⟩) (by assumption) ?_
    rotate_left 1
    · intro w hSw
      obtain ⟨s1, s2, s3⟩ := hSw
      go_simp
      try with_reducible rfl
    try simp only [Act.put, List.getElem_toArray, List.getElem_cons_zero, List.getElem_cons_succ, List.setIfInBounds_toArray, List.set_cons_zero, List.set_cons_succ]
    refine wpAnyH_take (i := 6) (v := ?_) rfl (by kernel_rfl) (by kernel_rfl) (by kernel_rfl) (fun _ _ _ h => h) (Or.inl ⟨by rfl, ?_⟩) (by assumption) ?_
    rotate_left 1
    · intro w hSw
      obtain ⟨s1, s2, s3⟩ := hSw
      go_simp
      try with_reducible rfl
    try simp only [Act.put, List.getElem_toArray, List.getElem_cons_zero, List.getElem_cons_succ, List.setIfInBounds_toArray, List.set_cons_zero, List.set_cons_succ]
    refine wpAnyH_take (i := 7) (v := ?_) rfl (by kernel_rfl) (by kernel_rfl) (by kernel_rfl) (fun _ _ _ h => h) (Or.inl ⟨by rfl, ?_⟩) (by assumption) ?_
    rotate_left 1
    · intro w hSw
      obtain ⟨s1, s2, s3⟩ := hSw
      go_simp
      try with_reducible rfl
    try simp only [Act.put, List.getElem_toArray, List.getElem_cons_zero, List.getElem_cons_succ, List.setIfInBounds_toArray, List.set_cons_zero, List.set_cons_succ]
    refine wpAnyH_take (i := 8) (v := ?_) rfl (by kernel_rfl) (by kernel_rfl) (by kernel_rfl) (fun _ _ _ h => h) (Or.inl ⟨by rfl, ?_⟩) (by assumption) ?_
    rotate_left 1
    · intro w hSw
      obtain ⟨s1, s2, s3⟩ := hSw
      go_simp
      try with_reducible rfl
    try simp only [Act.put, List.getElem_toArray, List.getElem_cons_zero, List.getElem_cons_succ, List.setIfInBounds_toArray, List.set_cons_zero, List.set_cons_succ]
    refine wpAnyH_ready (rs := [9]) (by kernel_rfl) (by simp) ?_
    refine AllReadyH.cons rfl (fun K hK => ?_) AllReadyH.nil
    go_simp
    refine hK.out _ _ (HS.out _ (((Kept.refl _ wB).alloc _).drew)) (fun hHeld => ?_)
    clear hK K
    try simp only [Act.put, List.getElem_toArray, List.getElem_cons_zero, List.getElem_cons_succ, List.setIfInBounds_toArray, List.set_cons_zero, List.set_cons_succ]
    refine wpAnyH_ready (rs := [10]) (by kernel_rfl) (by simp) ?_
    refine AllReadyH.cons rfl (fun K hK => ?_) AllReadyH.nil
    go_simp
    refine hK.out _ _ (HS.out _ (((Kept.refl _ wB).alloc _).drew)) (fun hHeld => ?_)
    clear hK K
    try simp only [Act.put, List.getElem_toArray, List.getElem_cons_zero, List.getElem_cons_succ, List.setIfInBounds_toArray, List.set_cons_zero, List.set_cons_succ]
    refine wpAnyH_take (i := 11) (v := ?_) rfl (by kernel_rfl) (by kernel_rfl) (by kernel_rfl) (fun _ _ _ h => h) (Or.inl ⟨by rfl, ?_⟩) (by assumption) ?_
    rotate_left 1
    · intro w hSw
      obtain ⟨s1, s2, s3⟩ := hSw
      go_simp
      try with_reducible rfl
    try simp only [Act.put, List.getElem_toArray, List.getElem_cons_zero, List.getElem_cons_succ, List.setIfInBounds_toArray, List.set_cons_zero, List.set_cons_succ]
    refine wpAnyH_done (by kernel_rfl) ?_ _
    have HKC : Hid (Kept (fun _ => False) w (wB.alloc (.cells #[.slice ao n c, .int .i64 st] 65)).drew) := (HKB.out.alloc _).drew
    have HC5 : Hid ((wB.alloc (.cells #[.slice ao n c, .int .i64 st] 65)).drew.cell? ⟨wB.heap.size, 0, none⟩ = some (.slice ao n c)) := (cell_block _ _ _ _ _ _ (alloc_new wB _ rfl)).trans rfl
    have HD3 : Hid ((wB.alloc (.cells #[.slice ao n c, .int .i64 st] 65)).drew.heap[w.heap.size]? = some (.cells ds 28 (0, 0))) := alloc_old (HS.out wB (Kept.refl _ _)).2.1
    generalize hb5 : wB.heap.size = b5 at *
    generalize (wB.alloc (.cells #[.slice ao n c, .int .i64 st] 65)).drew = wC at *
    clear HS HKB hb5 HL2
    have cC := HKC.out.cell HCP.out (fun f => f)
    have c5 := HC5.out
    go_wp2
    go_ret
    exact ⟨rfl, HKC.out⟩
  | some e =>
    rw [hl] at HL2 HN hov
    have hne : n = e.xs.length := HN.out
    have hel := HE.out e hl
    have hov2 : σ.cp < σ.us + ((xs.length : Int) + 32) - ((e.xs.length : Int) + 32) := hov
    rw [← hne] at hov2 hel
    have w2 : IntKind.i64.wrap (σ.us + ((xs.length : Int) + 32) - ((n : Int) + 32)) = σ.us + ((xs.length : Int) + 32) - ((n : Int) + 32) := by rw [IntKind.wrap_i64]; omega
    clear hov HE hl HN hne
    have HS : Hid (∀ W, Kept (fun _ => False) (w.alloc (.cells ds 28)) W → W.cell? ⟨s, 2, none⟩ = some mv ∧ W.heap[w.heap.size]? = some (.cells ds 28 (0, 0)) ∧ (Instr.lookup 59 mv (.agg ds) true).run Tryd.prog W = .ok (.tuple #[.agg #[.slice ao n c, .int .i64 st], .bool true]) W) := fun W hW =>
      ⟨hW.cell ((Kept.refl (fun _ => False) w).alloc _ |>.cell HM.out (fun f => f)) (fun f => f), (hW.block _ (by simp) (fun f => f)).trans (alloc_new _ _ rfl), HL2.out W (((Kept.refl (fun _ => False) w).alloc _).trans hW)⟩
    have HKA : Hid (Kept (fun _ => False) w (w.alloc (.cells ds 28))) := (Kept.refl _ w).alloc _
    have cU := HKA.out.cell HU.out (fun f => f)
    have w1 : IntKind.i64.wrap (σ.us + ((xs.length : Int) + 32)) = σ.us + ((xs.length : Int) + 32) := by rw [IntKind.wrap_i64]; omega
    go_enter Tryd.func30, Tryd.ntmps30
    go_wp2
    generalize w.alloc (.cells ds 28) = wA at *
    refine wp_region_held_drew (S := fun w' => w'.cell? ⟨s, 3, none⟩ = some (.int .i64 σ.us)) (by kernel_rfl) cU (fun hHeld => ?_)
    refine wpAnyH_take (i := 0) (v := ?_) rfl (by kernel_rfl) (by kernel_rfl) (by kernel_rfl) (fun _ _ _ h => h) (Or.inl ⟨by rfl, ?_⟩) (by assumption) ?_
    rotate_left 1
    · intro w hSw
      go_simp
      try with_reducible rfl
    try simp only [Act.put, List.getElem_toArray, List.getElem_cons_zero, List.getElem_cons_succ, List.setIfInBounds_toArray, List.set_cons_zero, List.set_cons_succ]
    refine wpAnyH_take (i := 1) (v := ?_) rfl (by kernel_rfl) (by kernel_rfl) (by kernel_rfl) (fun _ _ _ h => h) (Or.inl ⟨by rfl, ?_⟩) (by assumption) ?_
    rotate_left 1
    · intro w hSw
      go_simp
      try with_reducible rfl
    try simp only [Act.put, List.getElem_toArray, List.getElem_cons_zero, List.getElem_cons_succ, List.setIfInBounds_toArray, List.set_cons_zero, List.set_cons_succ]
    refine wpAnyH_take (i := 2) (v := ?_) rfl (by kernel_rfl) (by kernel_rfl) (by kernel_rfl) (fun _ _ _ h => h) (Or.inl ⟨by rfl, ?_⟩) (by assumption) ?_
    rotate_left 1
    · intro w hSw
      go_simp
      try with_reducible rfl
    try simp only [Act.put, List.getElem_toArray, List.getElem_cons_zero, List.getElem_cons_succ, List.setIfInBounds_toArray, List.set_cons_zero, List.set_cons_succ]
    refine wpAnyH_take (i := 3) (v := ?_) rfl (by kernel_rfl) (by kernel_rfl) (by kernel_rfl) (fun _ _ _ h => h) (Or.inl ⟨by rfl, ?_⟩) (by assumption) ?_
    rotate_left 1
    · intro w hSw
      go_simp
      try with_reducible rfl
    try simp only [Act.put, List.getElem_toArray, List.getElem_cons_zero, List.getElem_cons_succ, List.setIfInBounds_toArray, List.set_cons_zero, List.set_cons_succ]
    refine wpAnyH_take (i := 4) (v := ?_) rfl (by kernel_rfl) (by kernel_rfl) (by kernel_rfl) (fun _ _ _ h => h) (Or.inl ⟨by rfl, ?_⟩) (by assumption) ?_
    rotate_left 1
    · intro w hSw
      go_simp
      try with_reducible rfl
    try simp only [Act.put, List.getElem_toArray, List.getElem_cons_zero, List.getElem_cons_succ, List.setIfInBounds_toArray, List.set_cons_zero, List.set_cons_succ]
    refine wpAnyH_ready (rs := [5]) (by kernel_rfl) (by simp) ?_
    refine AllReadyH.cons rfl (fun K hK => ?_) AllReadyH.nil
    go_simp
    refine (cost_any _ _ _ _ (by omega)).mono ?_
    rintro e w' ⟨rfl, rfl⟩
    refine hK.out _ _ cU (fun hHeld => ?_)
    clear hK K
    try simp only [Act.put, List.getElem_toArray, List.getElem_cons_zero, List.getElem_cons_succ, List.setIfInBounds_toArray, List.set_cons_zero, List.set_cons_succ]
    refine wpAnyH_take (i := 6) (v := ?_) rfl (by kernel_rfl) (by kernel_rfl) (by kernel_rfl) (fun _ _ _ h => h) (Or.inl ⟨by rfl, ?_⟩) (by assumption) ?_
    rotate_left 1
    · intro w hSw
      go_simp
      try with_reducible rfl
    try simp only [Act.put, List.getElem_toArray, List.getElem_cons_zero, List.getElem_cons_succ, List.setIfInBounds_toArray, List.set_cons_zero, List.set_cons_succ]
    refine wpAnyH_take (i := 7) (v := ?_) rfl (by kernel_rfl) (by kernel_rfl) (by kernel_rfl) (fun _ _ _ h => h) (Or.inl ⟨by rfl, ?_⟩) (by assumption) ?_
    rotate_left 1
    · intro w hSw
      go_simp
      try with_reducible rfl
    try simp only [Act.put, List.getElem_toArray, List.getElem_cons_zero, List.getElem_cons_succ, List.setIfInBounds_toArray, List.set_cons_zero, List.set_cons_succ]
    refine wpAnyH_done (by kernel_rfl) ?_ _
    go_wp2
    have HSB : Hid (∀ W, Kept (fun _ => False) wA.drew W → W.cell? ⟨s, 2, none⟩ = some mv ∧ W.heap[w.heap.size]? = some (.cells ds 28 (0, 0)) ∧ (Instr.lookup 59 mv (.agg ds) true).run Tryd.prog W = .ok (.tuple #[.agg #[.slice ao n c, .int .i64 st], .bool true]) W) := fun W hW => HS.out W ((Kept.refl _ wA).drew.trans hW)
    have HKB : Hid (Kept (fun _ => False) w wA.drew) := HKA.out.drew
    clear HS HKA cU
    generalize wA.drew = wB at *
    have HS := HSB
    clear HSB
    refine wp_region_held_drew (S := fun w' => w'.cell? ⟨s, 2, none⟩ = some mv ∧ w'.heap[w.heap.size]? = some (.cells ds 28 (0, 0)) ∧ (Instr.lookup 59 mv (.agg ds) true).run Tryd.prog w' = .ok (.tuple #[.agg #[.slice ao n c, .int .i64 st], .bool true]) w') (by kernel_rfl) (HS.out _ ((Kept.refl _ wB).drew)) (fun hHeld => ?_)
    refine wpAnyH_take (i := 0) (v := ?_) rfl (by kernel_rfl) (by kernel_rfl) (by kernel_rfl) (fun _ _ _ h => h) (Or.inl ⟨by rfl, ?_⟩) (by assumption) ?_
    rotate_left 1
    · intro w hSw
      obtain ⟨s1, s2, s3⟩ := hSw
      go_simp
      try with_reducible rfl
    try simp only [Act.put, List.getElem_toArray, List.getElem_cons_zero, List.getElem_cons_succ, List.setIfInBounds_toArray, List.set_cons_zero, List.set_cons_succ]
    refine wpAnyH_take (i := 1) (v := ?_) rfl (by kernel_rfl) (by kernel_rfl) (by kernel_rfl) (fun _ _ _ h => h) (Or.inl ⟨by rfl, ?_⟩) (by assumption) ?_
    rotate_left 1
    · intro w hSw
      obtain ⟨s1, s2, s3⟩ := hSw
      go_simp
      try with_reducible rfl
    try simp only [Act.put, List.getElem_toArray, List.getElem_cons_zero, List.getElem_cons_succ, List.setIfInBounds_toArray, List.set_cons_zero, List.set_cons_succ]
    refine wpAnyH_take (i := 2) (v := ?_) rfl (by kernel_rfl) (by kernel_rfl) (by kernel_rfl) (fun _ _ _ h => h) (Or.inl ⟨by rfl, ?_⟩) (by assumption) ?_
    rotate_left 1
    · intro w hSw
      obtain ⟨s1, s2, s3⟩ := hSw
      go_simp
      try with_reducible rfl
    try simp only [Act.put, List.getElem_toArray, List.getElem_cons_zero, List.getElem_cons_succ, List.setIfInBounds_toArray, List.set_cons_zero, List.set_cons_succ]
    refine wpAnyH_take (i := 3) (v := ?_) rfl (by kernel_rfl) (by kernel_rfl) (by kernel_rfl) (fun _ _ _ h => h) (Or.inl ⟨by rfl, ?_⟩) (by assumption) ?_
    rotate_left 1
    · intro w hSw
      obtain ⟨s1, s2, s3⟩ := hSw
      go_simp
      try with_reducible rfl
    try simp only [Act.put, List.getElem_toArray, List.getElem_cons_zero, List.getElem_cons_succ, List.setIfInBounds_toArray, List.set_cons_zero, List.set_cons_succ]
    refine wpAnyH_take (i := 4) (v := .agg ds) rfl (by kernel_rfl) (by kernel_rfl) (by kernel_rfl) (fun _ _ _ h => h) (yields_row (by rfl) 28 _ rfl w.heap.size rfl 28 ds (0, 0) _ (fun w hSw => hSw.2.1) Tryd.underlying28 rfl hds) (by assumption) ?_
    try simp only [Act.put, List.getElem_toArray, List.getElem_cons_zero, List.getElem_cons_succ, List.setIfInBounds_toArray, List.set_cons_zero, List.set_cons_succ]
    refine wpAnyH_take (i := 5) (v := ?_) rfl (by kernel_rfl) (by kernel_rfl) (by kernel_rfl) (fun _ _ _ h => h) (Or.inl ⟨by rfl, ?_⟩) (by assumption) ?_
    rotate_left 1
    · intro w hSw
      obtain ⟨s1, s2, s3⟩ := hSw
      go_simp
      try with_reducible rfl
    try simp only [Act.put, List.getElem_toArray, List.getElem_cons_zero, List.getElem_cons_succ, List.setIfInBounds_toArray, List.set_cons_zero, List.set_cons_succ]
    refine wpAnyH_take (i := 6) (v := ?_) rfl (by kernel_rfl) (by kernel_rfl) (by kernel_rfl) (fun _ _ _ h => h) (Or.inl ⟨by rfl, ?_⟩) (by assumption) ?_
    rotate_left 1
    · intro w hSw
      obtain ⟨s1, s2, s3⟩ := hSw
      go_simp
      try with_reducible rfl
    try simp only [Act.put, List.getElem_toArray, List.getElem_cons_zero, List.getElem_cons_succ, List.setIfInBounds_toArray, List.set_cons_zero, List.set_cons_succ]
    refine wpAnyH_take (i := 7) (v := ?_) rfl (by kernel_rfl) (by kernel_rfl) (by kernel_rfl) (fun _ _ _ h => h) (Or.inl ⟨by rfl, ?_⟩) (by assumption) ?_
    rotate_left 1
    · intro w hSw
      obtain ⟨s1, s2, s3⟩ := hSw
      go_simp
      try with_reducible rfl
    try simp only [Act.put, List.getElem_toArray, List.getElem_cons_zero, List.getElem_cons_succ, List.setIfInBounds_toArray, List.set_cons_zero, List.set_cons_succ]
    refine wpAnyH_take (i := 8) (v := ?_) rfl (by kernel_rfl) (by kernel_rfl) (by kernel_rfl) (fun _ _ _ h => h) (Or.inl ⟨by rfl, ?_⟩) (by assumption) ?_
    rotate_left 1
    · intro w hSw
      obtain ⟨s1, s2, s3⟩ := hSw
      go_simp
      try with_reducible rfl
    try simp only [Act.put, List.getElem_toArray, List.getElem_cons_zero, List.getElem_cons_succ, List.setIfInBounds_toArray, List.set_cons_zero, List.set_cons_succ]
    refine wpAnyH_ready (rs := [9]) (by kernel_rfl) (by simp) ?_
    refine AllReadyH.cons rfl (fun K hK => ?_) AllReadyH.nil
    go_simp
    refine hK.out _ _ (HS.out _ (((Kept.refl _ wB).alloc _).drew)) (fun hHeld => ?_)
    clear hK K
    try simp only [Act.put, List.getElem_toArray, List.getElem_cons_zero, List.getElem_cons_succ, List.setIfInBounds_toArray, List.set_cons_zero, List.set_cons_succ]
    refine wpAnyH_ready (rs := [10]) (by kernel_rfl) (by simp) ?_
    refine AllReadyH.cons rfl (fun K hK => ?_) AllReadyH.nil
    go_simp
    refine hK.out _ _ (HS.out _ (((Kept.refl _ wB).alloc _).drew)) (fun hHeld => ?_)
    clear hK K
    try simp only [Act.put, List.getElem_toArray, List.getElem_cons_zero, List.getElem_cons_succ, List.setIfInBounds_toArray, List.set_cons_zero, List.set_cons_succ]
    refine wpAnyH_take (i := 11) (v := ?_) rfl (by kernel_rfl) (by kernel_rfl) (by kernel_rfl) (fun _ _ _ h => h) (Or.inl ⟨by rfl, ?_⟩) (by assumption) ?_
    rotate_left 1
    · intro w hSw
      obtain ⟨s1, s2, s3⟩ := hSw
      go_simp
      try with_reducible rfl
    try simp only [Act.put, List.getElem_toArray, List.getElem_cons_zero, List.getElem_cons_succ, List.setIfInBounds_toArray, List.set_cons_zero, List.set_cons_succ]
    refine wpAnyH_done (by kernel_rfl) ?_ _
    have HKC : Hid (Kept (fun _ => False) w (wB.alloc (.cells #[.slice ao n c, .int .i64 st] 65)).drew) := (HKB.out.alloc _).drew
    have HC5 : Hid ((wB.alloc (.cells #[.slice ao n c, .int .i64 st] 65)).drew.cell? ⟨wB.heap.size, 0, none⟩ = some (.slice ao n c)) := (cell_block _ _ _ _ _ _ (alloc_new wB _ rfl)).trans rfl
    have HD3 : Hid ((wB.alloc (.cells #[.slice ao n c, .int .i64 st] 65)).drew.heap[w.heap.size]? = some (.cells ds 28 (0, 0))) := alloc_old (HS.out wB (Kept.refl _ _)).2.1
    generalize hb5 : wB.heap.size = b5 at *
    generalize (wB.alloc (.cells #[.slice ao n c, .int .i64 st] 65)).drew = wC at *
    clear HS HKB hb5 HL2
    have cC := HKC.out.cell HCP.out (fun f => f)
    have c5 := HC5.out
    go_wp2_with fail
    refine (cost_any ao n c _ (by omega)).mono ?_
    rintro e w' ⟨rfl, rfl⟩
    go_wp2
    go_ret
    exact ⟨rfl, HKC.out⟩
end Go.Proofs.YtjdbmjkidljhpaaDoor

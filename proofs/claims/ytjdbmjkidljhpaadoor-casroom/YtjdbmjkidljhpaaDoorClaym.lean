/-
  Store.lay onto a map that is there, by contract.
-/
import Derived.Test.YtjdbmjkidljhpaaDoorClay
namespace Go.Proofs.YtjdbmjkidljhpaaDoor
open Go.RowKit
set_option linter.unusedVariables false
set_option linter.unusedSimpArgs false
set_option maxRecDepth 100000

set_option maxHeartbeats 4000000 in
theorem lay_more {w : World} {s : Nat} {r : Nat} {σ : Sg} (h : Stor w s (.map (some r)) σ) (d : List Int) (hd : d.length = 32) (hdr : ∀ x ∈ d, 0 ≤ x ∧ x < 256) (bv : Value) (xs : List Int) (hx : BIn w bv xs) (hxr : ∀ x ∈ xs, 0 ≤ x ∧ x < 256) (hn : xs.length ≤ 1048576) (hu : 0 ≤ σ.us) (hu2 : σ.us ≤ 1099511627776) (hsp : 0 ≤ σ.sp) (hsp2 : σ.sp ≤ 1099511627776) (hov : usedOf σ d xs ≤ σ.cp) (hxs : xs ≠ [] → ∀ g, bv.ownBlock = some g → g ≠ s) :
    Calls Tryd.prog 30 #[.pointer (some ⟨s, 0, none⟩), dv d, bv] w fun e w' => e = .returned (.int .i64 0) ∧ ∃ mv' σ', LayOk w.heap.size σ σ' d xs ∧ Stor w' s mv' σ' ∧ Kept (Own s (.map (some r))) w w' ∧ (mv' = (.map (some r)) ∨ ∃ r, mv' = .map (some r) ∧ w.heap.size ≤ r) := by
  obtain ⟨bo, bc, hbv, _, _⟩ := id hx
  subst hbv
  obtain ⟨ao, n, c, st, hV⟩ := h.shape d
  have hds := size28_of d hd
  have HL2 : Hid (∀ W, Kept (fun _ => False) w W → (Instr.lookup 59 (.map (some r)) (.agg (d.map (Value.int .u8)).toArray) true).run Tryd.prog W = .ok (.tuple #[.agg #[.slice ao n c, .int .i64 st], .bool (look σ.es d).isSome]) W) := fun W hW => by
    have := h.lookw d hd true W hW
    rw [hV] at this
    exact this
  have HM : Hid (w.cell? ⟨s, 2, none⟩ = some (.map (some r))) := h.cell 2
  have HU : Hid (w.cell? ⟨s, 3, none⟩ = some (.int .i64 σ.us)) := h.cell 3
  have HCP : Hid (w.cell? ⟨s, 1, none⟩ = some (.int .i64 σ.cp)) := h.cell 1
  have HN : Hid (match look σ.es d with | some e => n = e.xs.length | none => n = 0 ∧ ao = none) := by
    show match look σ.es d with | some e => n = e.xs.length | none => n = 0 ∧ ao = none
    unfold lookV at hV
    cases hl : look σ.es d with
    | none =>
      rw [hl] at hV
      unfold noLaid at hV
      injection hV with hV
      have := congrArg (fun a => a[0]?) hV
      simp at this
      exact ⟨this.2.1.symm, this.1.symm⟩
    | some e =>
      rw [hl] at hV
      obtain ⟨eo, ec, he, _⟩ := (h.blob e (look_mem _ _ _ hl).1).1
      have hV2 : Value.agg #[e.bv, .int .i64 e.st] = .agg #[.slice ao n c, .int .i64 st] := hV
      rw [he] at hV2
      injection hV2 with hV2
      have := congrArg (fun a => a[0]?) hV2
      simp at this
      exact this.2.1.symm
  have HE : Hid (∀ e, look σ.es d = some e → e.xs.length ≤ 1048576) := fun e he => (h.blob e (look_mem _ _ _ he).1).2.2.1
  have HRL : Hid (∀ (W : World) (r clock : Nat) (es : List En), W.heap[r]? = some (.map (es.map En.ent).toArray clock) → (∀ e ∈ es, e.k.length = 32) → ∀ (v : Value) (st : Int), ∃ clock', Ticks clock clock' es d ∧ (Instr.mapUpdate 59 (.map (some r)) (.agg (d.map (Value.int .u8)).toArray) (.agg #[v, .int .i64 st])).run Tryd.prog W = .ok () (World.over W r (.map ((lays es ⟨d, v, xs, st, clock⟩).map En.ent).toArray clock'))) := fun W r clock es hb hes v st => run_lay W r clock es hb hes d hd v xs st
  have HST := hid_of h
  have HSP : Hid (w.cell? ⟨s, 4, none⟩ = some (.int .i64 σ.sp)) := h.cell 4
  have HX := hid_of hx
  have hsl := h.lt
  have HUO : Hid (usedOf σ d xs = σ.us + ((xs.length : Int) + 32) - (match look σ.es d with | some e => (e.xs.length : Int) + 32 | none => 0)) := rfl
  have HKY : Hid (d.length = 32 ∧ ∀ x ∈ d, 0 ≤ x ∧ x < 256) := ⟨hd, hdr⟩
  unfold dv
  clear h hV hx hdr
  generalize (d.map (Value.int .u8)).toArray = ds at *
  have hrd : r ≠ w.heap.size := by
    rcases HST.out.map with ⟨h1, _⟩ | ⟨r', c, h1, h2, _⟩
    · cases h1
    · cases h1
      have := heap_lt h2
      omega
  cases hl : look σ.es d with
  | none =>
    rw [hl] at HL2 HUO
    have hus : usedOf σ d xs = σ.us + ((xs.length : Int) + 32) := by have := HUO.out; simpa using this
    have hle : ¬ σ.cp < σ.us + ((xs.length : Int) + 32) := by omega
    clear HE hl HN HUO hov
    have HS : Hid (∀ W, Kept (fun _ => False) (w.alloc (.cells ds 28)) W → W.cell? ⟨s, 2, none⟩ = some (.map (some r)) ∧ W.heap[w.heap.size]? = some (.cells ds 28 (0, 0)) ∧ (Instr.lookup 59 (.map (some r)) (.agg ds) true).run Tryd.prog W = .ok (.tuple #[.agg #[.slice ao n c, .int .i64 st], .bool false]) W) := fun W hW =>
      ⟨hW.cell ((Kept.refl (fun _ => False) w).alloc _ |>.cell HM.out (fun f => f)) (fun f => f), (hW.block _ (by simp) (fun f => f)).trans (alloc_new _ _ rfl), HL2.out W (((Kept.refl (fun _ => False) w).alloc _).trans hW)⟩
    have HKA : Hid (Kept (fun _ => False) w (w.alloc (.cells ds 28))) := (Kept.refl _ w).alloc _
    have cU := HKA.out.cell HU.out (fun f => f)
    have w1 : IntKind.i64.wrap (σ.us + ((xs.length : Int) + 32)) = σ.us + ((xs.length : Int) + 32) := by rw [IntKind.wrap_i64]; omega
    go_enter Tryd.func30, Tryd.ntmps30
    go_wp2
    generalize w.alloc (.cells ds 28) = wA at *
    refine wp_region_held_drew (S := fun w' => w'.cell? ⟨s, 3, none⟩ = some (.int .i64 σ.us)) (by kernel_rfl) cU (fun hHeld => ?_)
    refine wpAnyH_take (i := 0) (v := ?_) rfl (by kernel_rfl) (by kernel_rfl) (by kernel_rfl) (fun _ _ _ h => h) (Or.inl ⟨by rfl, ?_⟩) (by assumption) ?_
    rotate_left 1
    · intro w hSw
      go_simp
      try with_reducible rfl
    try simp only [Act.put, List.getElem_toArray, List.getElem_cons_zero, List.getElem_cons_succ, List.setIfInBounds_toArray, List.set_cons_zero, List.set_cons_succ]
    refine wpAnyH_take (i := 1) (v := ?_) rfl (by kernel_rfl) (by kernel_rfl) (by kernel_rfl) (fun _ _ _ h => h) (Or.inl ⟨by rfl, ?_⟩) (by assumption) ?_
    rotate_left 1
    · intro w hSw
      go_simp
      try with_reducible rfl
    try simp only [Act.put, List.getElem_toArray, List.getElem_cons_zero, List.getElem_cons_succ, List.setIfInBounds_toArray, List.set_cons_zero, List.set_cons_succ]
    refine wpAnyH_take (i := 2) (v := ?_) rfl (by kernel_rfl) (by kernel_rfl) (by kernel_rfl) (fun _ _ _ h => h) (Or.inl ⟨by rfl, ?_⟩) (by assumption) ?_
    rotate_left 1
    · intro w hSw
      go_simp
      try with_reducible rfl
    try simp only [Act.put, List.getElem_toArray, List.getElem_cons_zero, List.getElem_cons_succ, List.setIfInBounds_toArray, List.set_cons_zero, List.set_cons_succ]
    refine wpAnyH_take (i := 3) (v := ?_) rfl (by kernel_rfl) (by kernel_rfl) (by kernel_rfl) (fun _ _ _ h => h) (Or.inl ⟨by rfl, ?_⟩) (by assumption) ?_
    rotate_left 1
    · intro w hSw
      go_simp
      try with_reducible rfl
    try simp only [Act.put, List.getElem_toArray, List.getElem_cons_zero, List.getElem_cons_succ, List.setIfInBounds_toArray, List.set_cons_zero, List.set_cons_succ]
    refine wpAnyH_take (i := 4) (v := ?_) rfl (by kernel_rfl) (by kernel_rfl) (by kernel_rfl) (fun _ _ _ h => h) (Or.inl ⟨by rfl, ?_⟩) (by assumption) ?_
    rotate_left 1
    · intro w hSw
      go_simp
      try with_reducible rfl
    try simp only [Act.put, List.getElem_toArray, List.getElem_cons_zero, List.getElem_cons_succ, List.setIfInBounds_toArray, List.set_cons_zero, List.set_cons_succ]
    refine wpAnyH_ready (rs := [5]) (by kernel_rfl) (by simp) ?_
    refine AllReadyH.cons rfl (fun K hK => ?_) AllReadyH.nil
    go_simp
    refine (cost_any _ _ _ _ (by omega)).mono ?_
    rintro e w' ⟨rfl, rfl⟩
    refine hK.out _ _ cU (fun hHeld => ?_)
    clear hK K
    try simp only [Act.put, List.getElem_toArray, List.getElem_cons_zero, List.getElem_cons_succ, List.setIfInBounds_toArray, List.set_cons_zero, List.set_cons_succ]
    refine wpAnyH_take (i := 6) (v := ?_) rfl (by kernel_rfl) (by kernel_rfl) (by kernel_rfl) (fun _ _ _ h => h) (Or.inl ⟨by rfl, ?_⟩) (by assumption) ?_
    rotate_left 1
    · intro w hSw
      go_simp
      try with_reducible rfl
    try simp only [Act.put, List.getElem_toArray, List.getElem_cons_zero, List.getElem_cons_succ, List.setIfInBounds_toArray, List.set_cons_zero, List.set_cons_succ]
    refine wpAnyH_take (i := 7) (v := ?_) rfl (by kernel_rfl) (by kernel_rfl) (by kernel_rfl) (fun _ _ _ h => h) (Or.inl ⟨by rfl, ?_⟩) (by assumption) ?_
    rotate_left 1
    · intro w hSw
      go_simp
      try with_reducible rfl
    try simp only [Act.put, List.getElem_toArray, List.getElem_cons_zero, List.getElem_cons_succ, List.setIfInBounds_toArray, List.set_cons_zero, List.set_cons_succ]
    refine wpAnyH_done (by kernel_rfl) ?_ _
    go_wp2
    have HSB : Hid (∀ W, Kept (fun _ => False) wA.drew W → W.cell? ⟨s, 2, none⟩ = some (.map (some r)) ∧ W.heap[w.heap.size]? = some (.cells ds 28 (0, 0)) ∧ (Instr.lookup 59 (.map (some r)) (.agg ds) true).run Tryd.prog W = .ok (.tuple #[.agg #[.slice ao n c, .int .i64 st], .bool false]) W) := fun W hW => HS.out W ((Kept.refl _ wA).drew.trans hW)
    have HKB : Hid (Kept (fun _ => False) w wA.drew) := HKA.out.drew
    clear HS HKA cU
    generalize wA.drew = wB at *
    have HS := HSB
    clear HSB
    refine wp_region_held_drew (S := fun w' => w'.cell? ⟨s, 2, none⟩ = some (.map (some r)) ∧ w'.heap[w.heap.size]? = some (.cells ds 28 (0, 0)) ∧ (Instr.lookup 59 (.map (some r)) (.agg ds) true).run Tryd.prog w' = .ok (.tuple #[.agg #[.slice ao n c, .int .i64 st], .bool false]) w') (by kernel_rfl) (HS.out _ ((Kept.refl _ wB).drew)) (fun hHeld => ?_)
    refine wpAnyH_take (i := 0) (v := ?_) rfl (by kernel_rfl) (by kernel_rfl) (by kernel_rfl) (fun _ _ _ h => h) (Or.inl ⟨by rfl, ?_⟩) (by assumption) ?_
    rotate_left 1
    · intro w hSw
      obtain ⟨s1, s2, s3⟩ := hSw
      go_simp
      try with_reducible rfl
    try simp only [Act.put, List.getElem_toArray, List.getElem_cons_zero, List.getElem_cons_succ, List.setIfInBounds_toArray, List.set_cons_zero, List.set_cons_succ]
    refine wpAnyH_take (i := 1) (v := ?_) rfl (by kernel_rfl) (by kernel_rfl) (by kernel_rfl) (fun _ _ _ h => h) (Or.inl ⟨by rfl, ?_⟩) (by assumption) ?_
    rotate_left 1
    · intro w hSw
      obtain ⟨s1, s2, s3⟩ := hSw
      go_simp
      try with_reducible rfl
    try simp only [Act.put, List.getElem_toArray, List.getElem_cons_zero, List.getElem_cons_succ, List.setIfInBounds_toArray, List.set_cons_zero, List.set_cons_succ]
    refine wpAnyH_take (i := 2) (v := ?_) rfl (by kernel_rfl) (by kernel_rfl) (by kernel_rfl) (fun _ _ _ h => h) (Or.inl ⟨by rfl, ?_⟩) (by assumption) ?_
    rotate_left 1
    · intro w hSw
      obtain ⟨s1, s2, s3⟩ := hSw
      go_simp
      try with_reducible rfl
    try simp only [Act.put, List.getElem_toArray, List.getElem_cons_zero, List.getElem_cons_succ, List.setIfInBounds_toArray, List.set_cons_zero, List.set_cons_succ]
    refine wpAnyH_take (i := 3) (v := ?_) rfl (by kernel_rfl) (by kernel_rfl) (by kernel_rfl) (fun _ _ _ h => h) (Or.inl ⟨by rfl, ?_⟩) (by assumption) ?_
    rotate_left 1
    · intro w hSw
      obtain ⟨s1, s2, s3⟩ := hSw
      go_simp
      try with_reducible rfl
    try simp only [Act.put, List.getElem_toArray, List.getElem_cons_zero, List.getElem_cons_succ, List.setIfInBounds_toArray, List.set_cons_zero, List.set_cons_succ]
    refine wpAnyH_take (i := 4) (v := .agg ds) rfl (by kernel_rfl) (by kernel_rfl) (by kernel_rfl) (fun _ _ _ h => h) (yields_row (by rfl) 28 _ rfl w.heap.size rfl 28 ds (0, 0) _ (fun w hSw => hSw.2.1) Tryd.underlying28 rfl hds) (by assumption) ?_
    try simp only [Act.put, List.getElem_toArray, List.getElem_cons_zero, List.getElem_cons_succ, List.setIfInBounds_toArray, List.set_cons_zero, List.set_cons_succ]
    refine wpAnyH_take (i := 5) (v := ?_) rfl (by kernel_rfl) (by kernel_rfl) (by kernel_rfl) (fun _ _ _ h => h) (Or.inl ⟨by rfl, ?_⟩) (by assumption) ?_
    rotate_left 1
    · intro w hSw
      obtain ⟨s1, s2, s3⟩ := hSw
      go_simp
      try with_reducible rfl
    try simp only [Act.put, List.getElem_toArray, List.getElem_cons_zero, List.getElem_cons_succ, List.setIfInBounds_toArray, List.set_cons_zero, List.set_cons_succ]
    refine wpAnyH_take (i := 6) (v := ?_) rfl (by kernel_rfl) (by kernel_rfl) (by kernel_rfl) (fun _ _ _ h => h) (Or.inl ⟨by rfl, ?_⟩) (by assumption) ?_
    rotate_left 1
    · intro w hSw
      obtain ⟨s1, s2, s3⟩ := hSw
      go_simp
      try with_reducible rfl
    try simp only [Act.put, List.getElem_toArray, List.getElem_cons_zero, List.getElem_cons_succ, List.setIfInBounds_toArray, List.set_cons_zero, List.set_cons_succ]
    refine wpAnyH_take (i := 7) (v := ?_) rfl (by kernel_rfl) (by kernel_rfl) (by kernel_rfl) (fun _ _ _ h => h) (Or.inl ⟨by rfl, ?_⟩) (by assumption) ?_
    rotate_left 1
    · intro w hSw
      obtain ⟨s1, s2, s3⟩ := hSw
      go_simp
      try with_reducible rfl
    try simp only [Act.put, List.getElem_toArray, List.getElem_cons_zero, List.getElem_cons_succ, List.setIfInBounds_toArray, List.set_cons_zero, List.set_cons_succ]
    refine wpAnyH_take (i := 8) (v := ?_) rfl (by kernel_rfl) (by kernel_rfl) (by kernel_rfl) (fun _ _ _ h => h) (Or.inl ⟨by rfl, ?_⟩) (by assumption) ?_
    rotate_left 1
    · intro w hSw
      obtain ⟨s1, s2, s3⟩ := hSw
      go_simp
      try with_reducible rfl
    try simp only [Act.put, List.getElem_toArray, List.getElem_cons_zero, List.getElem_cons_succ, List.setIfInBounds_toArray, List.set_cons_zero, List.set_cons_succ]
    refine wpAnyH_ready (rs := [9]) (by kernel_rfl) (by simp) ?_
    refine AllReadyH.cons rfl (fun K hK => ?_) AllReadyH.nil
    go_simp
    refine hK.out _ _ (HS.out _ (((Kept.refl _ wB).alloc _).drew)) (fun hHeld => ?_)
    clear hK K
    try simp only [Act.put, List.getElem_toArray, List.getElem_cons_zero, List.getElem_cons_succ, List.setIfInBounds_toArray, List.set_cons_zero, List.set_cons_succ]
    refine wpAnyH_ready (rs := [10]) (by kernel_rfl) (by simp) ?_
    refine AllReadyH.cons rfl (fun K hK => ?_) AllReadyH.nil
    go_simp
    refine hK.out _ _ (HS.out _ (((Kept.refl _ wB).alloc _).drew)) (fun hHeld => ?_)
    clear hK K
    try simp only [Act.put, List.getElem_toArray, List.getElem_cons_zero, List.getElem_cons_succ, List.setIfInBounds_toArray, List.set_cons_zero, List.set_cons_succ]
    refine wpAnyH_take (i := 11) (v := ?_) rfl (by kernel_rfl) (by kernel_rfl) (by kernel_rfl) (fun _ _ _ h => h) (Or.inl ⟨by rfl, ?_⟩) (by assumption) ?_
    rotate_left 1
    · intro w hSw
      obtain ⟨s1, s2, s3⟩ := hSw
      go_simp
      try with_reducible rfl
    try simp only [Act.put, List.getElem_toArray, List.getElem_cons_zero, List.getElem_cons_succ, List.setIfInBounds_toArray, List.set_cons_zero, List.set_cons_succ]
    refine wpAnyH_done (by kernel_rfl) ?_ _
    have HKC : Hid (Kept (fun _ => False) w (wB.alloc (.cells #[.slice ao n c, .int .i64 st] 65)).drew) := (HKB.out.alloc _).drew
    have HC5 : Hid ((wB.alloc (.cells #[.slice ao n c, .int .i64 st] 65)).drew.cell? ⟨wB.heap.size, 0, none⟩ = some (.slice ao n c)) := (cell_block _ _ _ _ _ _ (alloc_new wB _ rfl)).trans rfl
    have HD3 : Hid ((wB.alloc (.cells #[.slice ao n c, .int .i64 st] 65)).drew.heap[w.heap.size]? = some (.cells ds 28 (0, 0))) := alloc_old (HS.out wB (Kept.refl _ _)).2.1
    generalize hb5 : wB.heap.size = b5 at *
    generalize (wB.alloc (.cells #[.slice ao n c, .int .i64 st] 65)).drew = wC at *
    clear HS HKB hb5 HL2
    have cC := HKC.out.cell HCP.out (fun f => f)
    have c5 := HC5.out
    have HSC := hid_of (HST.out.kept HKC.out (fun _ _ f => f))
    have c2 : wC.cell? ⟨s, 2, none⟩ = some (.map (some r)) := HSC.out.cell 2
    have c4 : wC.cell? ⟨s, 4, none⟩ = some (.int .i64 σ.sp) := HSC.out.cell 4
    have f4 := HSC.out.fz 4
    have HM3 := HSC.out.set (σ' := { σ with sp := σ.sp + 1 }) 4 (.int .i64 (σ.sp + 1)) rfl rfl
    have HSE := hid_of HM3.1
    have HKE : Hid (Kept (Own s (.map (some r))) w (wC.setCell ⟨s, 4, none⟩ (.int .i64 (σ.sp + 1)))) := (HKC.out.mono (T := Own s (.map (some r))) (fun _ _ f => f.elim)).trans (HM3.2.mono (fun _ _ f => .inl f))
    have HDE : Hid ((wC.setCell ⟨s, 4, none⟩ (.int .i64 (σ.sp + 1))).heap[w.heap.size]? = some (.cells ds 28 (0, 0))) := (HM3.2.block _ (heap_lt HD3.out) (by omega)).trans HD3.out
    have HXE : Hid (BIn (wC.setCell ⟨s, 4, none⟩ (.int .i64 (σ.sp + 1))) (.slice bo xs.length bc) xs) := (HX.out.kept2 HKC.out (fun _ _ _ f => f)).kept2 HM3.2 (fun hx0 g hg => hxs hx0 g hg)
    have hwsp : IntKind.i64.wrap (σ.sp + 1) = σ.sp + 1 := by rw [IntKind.wrap_i64]; omega
    have q0 := eqMap
    clear HM3 HSC
    go_wp2
    clear q0 c2 c4 f4
    generalize wC.setCell ⟨s, 4, none⟩ (.int .i64 (σ.sp + 1)) = wE at *
    have hown : ∀ i, i < w.heap.size → i = r → Own s (.map (some r)) i := fun i hi e => .inr (by rw [e])
    clear cC c5 HC5 HD3 HKC
    have HSX : Hid (∀ W, Kept (fun _ => False) wE W → W.cell? ⟨s, 2, none⟩ = some (.map (some r)) ∧ W.heap[w.heap.size]? = some (.cells ds 28 (0, 0)) ∧ W.cell? ⟨s, 4, none⟩ = some (.int .i64 (σ.sp + 1))) := fun W hW => by
      have hh := HSE.out.kept hW (fun _ _ f => f)
      exact ⟨hh.cell 2, (hW.block _ (heap_lt HDE.out) (fun f => f)).trans HDE.out, hh.cell 4⟩
    refine wp_region_held_drew (S := fun w' => w'.cell? ⟨s, 2, none⟩ = some (.map (some r)) ∧ w'.heap[w.heap.size]? = some (.cells ds 28 (0, 0)) ∧ w'.cell? ⟨s, 4, none⟩ = some (.int .i64 (σ.sp + 1))) (by kernel_rfl) (HSX.out _ ((Kept.refl _ wE).drew)) (fun hHeld => ?_)
    refine wpAnyH_take (i := 0) (v := ?_) rfl (by kernel_rfl) (by kernel_rfl) (by kernel_rfl) (fun _ _ _ h => h) (Or.inl ⟨by rfl, ?_⟩) (by assumption) ?_
    rotate_left 1
    · intro w hSw
      obtain ⟨s1, s2, s3⟩ := hSw
      go_simp
      try with_reducible rfl
    try simp only [Act.put, List.getElem_toArray, List.getElem_cons_zero, List.getElem_cons_succ, List.setIfInBounds_toArray, List.set_cons_zero, List.set_cons_succ]
    refine wpAnyH_take (i := 1) (v := ?_) rfl (by kernel_rfl) (by kernel_rfl) (by kernel_rfl) (fun _ _ _ h => h) (Or.inl ⟨by rfl, ?_⟩) (by assumption) ?_
    rotate_left 1
    · intro w hSw
      obtain ⟨s1, s2, s3⟩ := hSw
      go_simp
      try with_reducible rfl
    try simp only [Act.put, List.getElem_toArray, List.getElem_cons_zero, List.getElem_cons_succ, List.setIfInBounds_toArray, List.set_cons_zero, List.set_cons_succ]
    refine wpAnyH_take (i := 2) (v := ?_) rfl (by kernel_rfl) (by kernel_rfl) (by kernel_rfl) (fun _ _ _ h => h) (Or.inl ⟨by rfl, ?_⟩) (by assumption) ?_
    rotate_left 1
    · intro w hSw
      obtain ⟨s1, s2, s3⟩ := hSw
      go_simp
      try with_reducible rfl
    try simp only [Act.put, List.getElem_toArray, List.getElem_cons_zero, List.getElem_cons_succ, List.setIfInBounds_toArray, List.set_cons_zero, List.set_cons_succ]
    refine wpAnyH_take (i := 3) (v := ?_) rfl (by kernel_rfl) (by kernel_rfl) (by kernel_rfl) (fun _ _ _ h => h) (Or.inl ⟨by rfl, ?_⟩) (by assumption) ?_
    rotate_left 1
    · intro w hSw
      obtain ⟨s1, s2, s3⟩ := hSw
      go_simp
      try with_reducible rfl
    try simp only [Act.put, List.getElem_toArray, List.getElem_cons_zero, List.getElem_cons_succ, List.setIfInBounds_toArray, List.set_cons_zero, List.set_cons_succ]
    refine wpAnyH_take (i := 4) (v := .agg ds) rfl (by kernel_rfl) (by kernel_rfl) (by kernel_rfl) (fun _ _ _ h => h) (yields_row (by rfl) 28 _ rfl w.heap.size rfl 28 ds (0, 0) _ (fun w hSw => hSw.2.1) Tryd.underlying28 rfl hds) (by assumption) ?_
    try simp only [Act.put, List.getElem_toArray, List.getElem_cons_zero, List.getElem_cons_succ, List.setIfInBounds_toArray, List.set_cons_zero, List.set_cons_succ]
    refine wpAnyH_take (i := 5) (v := ?_) rfl (by kernel_rfl) (by kernel_rfl) (by kernel_rfl) (fun _ _ _ h => h) (Or.inl ⟨by rfl, ?_⟩) (by assumption) ?_
    rotate_left 1
    · intro w hSw
      obtain ⟨s1, s2, s3⟩ := hSw
      go_simp
      try with_reducible rfl
    try simp only [Act.put, List.getElem_toArray, List.getElem_cons_zero, List.getElem_cons_succ, List.setIfInBounds_toArray, List.set_cons_zero, List.set_cons_succ]
    refine wpAnyH_take (i := 7) (v := ?_) rfl (by kernel_rfl) (by kernel_rfl) (by kernel_rfl) (fun _ _ _ h => h) (Or.inl ⟨by rfl, ?_⟩) (by assumption) ?_
    rotate_left 1
    · intro w hSw
      obtain ⟨s1, s2, s3⟩ := hSw
      go_simp
      try with_reducible rfl
    try simp only [Act.put, List.getElem_toArray, List.getElem_cons_zero, List.getElem_cons_succ, List.setIfInBounds_toArray, List.set_cons_zero, List.set_cons_succ]
    refine wpAnyH_take (i := 8) (v := ?_) rfl (by kernel_rfl) (by kernel_rfl) (by kernel_rfl) (fun _ _ _ h => h) (Or.inl ⟨by rfl, ?_⟩) (by assumption) ?_
    rotate_left 1
    · intro w hSw
      obtain ⟨s1, s2, s3⟩ := hSw
      go_simp
      try with_reducible rfl
    try simp only [Act.put, List.getElem_toArray, List.getElem_cons_zero, List.getElem_cons_succ, List.setIfInBounds_toArray, List.set_cons_zero, List.set_cons_succ]
    refine wpAnyH_take (i := 9) (v := ?_) rfl (by kernel_rfl) (by kernel_rfl) (by kernel_rfl) (fun _ _ _ h => h) (Or.inl ⟨by rfl, ?_⟩) (by assumption) ?_
    rotate_left 1
    · intro w hSw
      obtain ⟨s1, s2, s3⟩ := hSw
      go_simp
      try with_reducible rfl
    try simp only [Act.put, List.getElem_toArray, List.getElem_cons_zero, List.getElem_cons_succ, List.setIfInBounds_toArray, List.set_cons_zero, List.set_cons_succ]
    refine wpAnyH_take (i := 10) (v := ?_) rfl (by kernel_rfl) (by kernel_rfl) (by kernel_rfl) (fun _ _ _ h => h) (Or.inl ⟨by rfl, ?_⟩) (by assumption) ?_
    rotate_left 1
    · intro w hSw
      obtain ⟨s1, s2, s3⟩ := hSw
      go_simp
      try with_reducible rfl
    try simp only [Act.put, List.getElem_toArray, List.getElem_cons_zero, List.getElem_cons_succ, List.setIfInBounds_toArray, List.set_cons_zero, List.set_cons_succ]
    refine wpAnyH_ready (rs := [6]) (by kernel_rfl) (by simp) ?_
    refine AllReadyH.cons rfl (fun K hK => ?_) AllReadyH.nil
    go_simp
    refine (clone_any (.slice bo xs.length bc) xs wE.drew (HXE.out.kept2 (Kept.refl (fun _ => False) wE).drew (fun _ _ _ f => f)) (by omega)).mono ?_
    rintro e w6 ⟨v', rfl, hv1, hv2, hk6⟩
    have hk6' : Kept (fun _ => False) wE w6 := (Kept.refl _ wE).drew.trans hk6
    obtain ⟨vo, vc, hvv, _, _⟩ := id hv1
    subst hvv
    have H6 := hid_of (HSE.out.kept hk6' (fun _ _ f => f))
    obtain ⟨clock, hb6, hrs⟩ : ∃ clock, w6.heap[r]? = some (.map (σ.es.map En.ent).toArray clock) ∧ (r ≠ s ∧ Stampd clock σ.es) := by
      rcases H6.out.map with ⟨hh, _⟩ | ⟨r', clock, hh, hb, hrs⟩
      · cases hh
      · cases hh
        exact ⟨clock, hb, hrs⟩
    obtain ⟨clock', hcl, hrun⟩ := HRL.out w6 r clock σ.es hb6 (fun e he => (H6.out.key e he).1) (.slice vo xs.length vc) (σ.sp + 1)
    have HE7 : Hid (Stor (World.over w6 r (.map ((lays σ.es ⟨d, .slice vo xs.length vc, xs, σ.sp + 1, clock⟩).map En.ent).toArray clock')) s (.map (some r)) { σ with sp := σ.sp + 1, es := lays σ.es ⟨d, .slice vo xs.length vc, xs, σ.sp + 1, clock⟩ }) :=
      Stor.entry (σ := { σ with sp := σ.sp + 1 }) (e := ⟨d, .slice vo xs.length vc, xs, σ.sp + 1, clock⟩) H6.out hb6 hrs HKY.out hv1 hxr hn (fun g hg => by have h7 := (hv2 g hg).1; have h8 := HSE.out.lt; have h9 : wE.drew.heap.size = wE.heap.size := rfl; omega) hcl rfl
    have HK7 : Hid (Kept (fun k => k = r) w6 (World.over w6 r (.map ((lays σ.es ⟨d, .slice vo xs.length vc, xs, σ.sp + 1, clock⟩).map En.ent).toArray clock'))) := kept_over _ _ _
    have HK6 := hid_of hk6'
    have HD6 := hid_of ((hk6'.block _ (heap_lt HDE.out) (fun f => f)).trans HDE.out)
    have HBB : Hid (∃ bv born, (∀ g, bv.ownBlock = some g → w.heap.size ≤ g) ∧ lays σ.es ⟨d, .slice vo xs.length vc, xs, σ.sp + 1, clock⟩ = lays σ.es ⟨d, bv, xs, σ.sp + 1, born⟩) := ⟨.slice vo xs.length vc, clock, fun g hg => by have h7 := (hv2 g hg).1; have h8 := HKE.out.size; have h9 : wE.drew.heap.size = wE.heap.size := rfl; omega, rfl⟩
    generalize lays σ.es ⟨d, .slice vo xs.length vc, xs, σ.sp + 1, clock⟩ = es2 at *
    generalize World.over w6 r (.map (es2.map En.ent).toArray clock') = w7 at *
    clear hv1 hv2 hk6 hk6' hb6 hcl hrs
    refine hK.out _ _ (HSX.out _ HK6.out) (fun hHeld => ?_)
    clear hK K
    try simp only [Act.put, List.getElem_toArray, List.getElem_cons_zero, List.getElem_cons_succ, List.setIfInBounds_toArray, List.set_cons_zero, List.set_cons_succ]
    refine wpAnyH_take (i := 11) (v := ?_) rfl (by kernel_rfl) (by kernel_rfl) (by kernel_rfl) (fun _ _ _ h => h) (Or.inl ⟨by rfl, ?_⟩) (by assumption) ?_
    rotate_left 1
    · intro w hSw
      obtain ⟨s1, s2, s3⟩ := hSw
      go_simp
      try with_reducible rfl
    try simp only [Act.put, List.getElem_toArray, List.getElem_cons_zero, List.getElem_cons_succ, List.setIfInBounds_toArray, List.set_cons_zero, List.set_cons_succ]
    refine wpAnyH_ready (rs := [12]) (by kernel_rfl) (by simp) ?_
    refine AllReadyH.cons rfl (fun K hK => ?_) AllReadyH.nil
    go_simp
    refine hK.out _ _ ⟨HE7.out.cell 2, (HK7.out.block _ (heap_lt HD6.out) (fun f => hrd f.symm)).trans HD6.out, HE7.out.cell 4⟩ (fun hHeld => ?_)
    clear hK K
    try simp only [Act.put, List.getElem_toArray, List.getElem_cons_zero, List.getElem_cons_succ, List.setIfInBounds_toArray, List.set_cons_zero, List.set_cons_succ]
    refine wpAnyH_done (by kernel_rfl) ?_ _
    have c3 : w7.cell? ⟨s, 3, none⟩ = some (.int .i64 σ.us) := HE7.out.cell 3
    have f3 := HE7.out.fz 3
    have HEND := hid_of (HE7.out.set (σ' := { σ with us := σ.us + ((xs.length : Int) + 32), sp := σ.sp + 1, es := es2 }) 3 (.int .i64 (σ.us + ((xs.length : Int) + 32))) rfl rfl)
    clear hrun HRL HSX
    go_wp2
    go_ret
    refine ⟨rfl, .map (some r), _, ?_, HEND.out.1, ?_, (.inl rfl)⟩
    · obtain ⟨bvv, born, hbg, hbb⟩ := HBB.out
      exact ⟨bvv, born, hbg, by rw [hus, hbb]⟩
    · exact HKE.out.step (((HK6.out.mono (T := fun k => k = s ∨ k = r) (fun _ _ f => f.elim)).trans (HK7.out.mono (fun _ _ f => .inr f))).trans (HEND.out.2.mono (fun _ _ f => .inl f))) (fun i hi f => by rcases f with f | f; exact .inl f; exact hown i hi f)
  | some e =>
    rw [hl] at HL2 HN HUO
    have hne : n = e.xs.length := HN.out
    have hel := HE.out e hl
    have hus : usedOf σ d xs = σ.us + ((xs.length : Int) + 32) - ((e.xs.length : Int) + 32) := HUO.out
    rw [← hne] at hus hel
    have hle : ¬ σ.cp < σ.us + ((xs.length : Int) + 32) - ((n : Int) + 32) := by omega
    have w2 : IntKind.i64.wrap (σ.us + ((xs.length : Int) + 32) - ((n : Int) + 32)) = σ.us + ((xs.length : Int) + 32) - ((n : Int) + 32) := by rw [IntKind.wrap_i64]; omega
    clear hov HE hl HN hne HUO
    have HS : Hid (∀ W, Kept (fun _ => False) (w.alloc (.cells ds 28)) W → W.cell? ⟨s, 2, none⟩ = some (.map (some r)) ∧ W.heap[w.heap.size]? = some (.cells ds 28 (0, 0)) ∧ (Instr.lookup 59 (.map (some r)) (.agg ds) true).run Tryd.prog W = .ok (.tuple #[.agg #[.slice ao n c, .int .i64 st], .bool true]) W) := fun W hW =>
      ⟨hW.cell ((Kept.refl (fun _ => False) w).alloc _ |>.cell HM.out (fun f => f)) (fun f => f), (hW.block _ (by simp) (fun f => f)).trans (alloc_new _ _ rfl), HL2.out W (((Kept.refl (fun _ => False) w).alloc _).trans hW)⟩
    have HKA : Hid (Kept (fun _ => False) w (w.alloc (.cells ds 28))) := (Kept.refl _ w).alloc _
    have cU := HKA.out.cell HU.out (fun f => f)
    have w1 : IntKind.i64.wrap (σ.us + ((xs.length : Int) + 32)) = σ.us + ((xs.length : Int) + 32) := by rw [IntKind.wrap_i64]; omega
    go_enter Tryd.func30, Tryd.ntmps30
    go_wp2
    generalize w.alloc (.cells ds 28) = wA at *
    refine wp_region_held_drew (S := fun w' => w'.cell? ⟨s, 3, none⟩ = some (.int .i64 σ.us)) (by kernel_rfl) cU (fun hHeld => ?_)
    refine wpAnyH_take (i := 0) (v := ?_) rfl (by kernel_rfl) (by kernel_rfl) (by kernel_rfl) (fun _ _ _ h => h) (Or.inl ⟨by rfl, ?_⟩) (by assumption) ?_
    rotate_left 1
    · intro w hSw
      go_simp
      try with_reducible rfl
    try simp only [Act.put, List.getElem_toArray, List.getElem_cons_zero, List.getElem_cons_succ, List.setIfInBounds_toArray, List.set_cons_zero, List.set_cons_succ]
    refine wpAnyH_take (i := 1) (v := ?_) rfl (by kernel_rfl) (by kernel_rfl) (by kernel_rfl) (fun _ _ _ h => h) (Or.inl ⟨by rfl, ?_⟩) (by assumption) ?_
    rotate_left 1
    · intro w hSw
      go_simp
      try with_reducible rfl
    try simp only [Act.put, List.getElem_toArray, List.getElem_cons_zero, List.getElem_cons_succ, List.setIfInBounds_toArray, List.set_cons_zero, List.set_cons_succ]
    refine wpAnyH_take (i := 2) (v := ?_) rfl (by kernel_rfl) (by kernel_rfl) (by kernel_rfl) (fun _ _ _ h => h) (Or.inl ⟨by rfl, ?_⟩) (by assumption) ?_
    rotate_left 1
    · intro w hSw
      go_simp
      try with_reducible rfl
    try simp only [Act.put, List.getElem_toArray, List.getElem_cons_zero, List.getElem_cons_succ, List.setIfInBounds_toArray, List.set_cons_zero, List.set_cons_succ]
    refine wpAnyH_take (i := 3) (v := ?_) rfl (by kernel_rfl) (by kernel_rfl) (by kernel_rfl) (fun _ _ _ h => h) (Or.inl ⟨by rfl, ?_⟩) (by assumption) ?_
    rotate_left 1
    · intro w hSw
      go_simp
      try with_reducible rfl
    try simp only [Act.put, List.getElem_toArray, List.getElem_cons_zero, List.getElem_cons_succ, List.setIfInBounds_toArray, List.set_cons_zero, List.set_cons_succ]
    refine wpAnyH_take (i := 4) (v := ?_) rfl (by kernel_rfl) (by kernel_rfl) (by kernel_rfl) (fun _ _ _ h => h) (Or.inl ⟨by rfl, ?_⟩) (by assumption) ?_
    rotate_left 1
    · intro w hSw
      go_simp
      try with_reducible rfl
    try simp only [Act.put, List.getElem_toArray, List.getElem_cons_zero, List.getElem_cons_succ, List.setIfInBounds_toArray, List.set_cons_zero, List.set_cons_succ]
    refine wpAnyH_ready (rs := [5]) (by kernel_rfl) (by simp) ?_
    refine AllReadyH.cons rfl (fun K hK => ?_) AllReadyH.nil
    go_simp
    refine (cost_any _ _ _ _ (by omega)).mono ?_
    rintro e w' ⟨rfl, rfl⟩
    refine hK.out _ _ cU (fun hHeld => ?_)
    clear hK K
    try simp only [Act.put, List.getElem_toArray, List.getElem_cons_zero, List.getElem_cons_succ, List.setIfInBounds_toArray, List.set_cons_zero, List.set_cons_succ]
    refine wpAnyH_take (i := 6) (v := ?_) rfl (by kernel_rfl) (by kernel_rfl) (by kernel_rfl) (fun _ _ _ h => h) (Or.inl ⟨by rfl, ?_⟩) (by assumption) ?_
    rotate_left 1
    · intro w hSw
      go_simp
      try with_reducible rfl
    try simp only [Act.put, List.getElem_toArray, List.getElem_cons_zero, List.getElem_cons_succ, List.setIfInBounds_toArray, List.set_cons_zero, List.set_cons_succ]
    refine wpAnyH_take (i := 7) (v := ?_) rfl (by kernel_rfl) (by kernel_rfl) (by kernel_rfl) (fun _ _ _ h => h) (Or.inl ⟨by rfl, ?_⟩) (by assumption) ?_
    rotate_left 1
    · intro w hSw
      go_simp
      try with_reducible rfl
    try simp only [Act.put, List.getElem_toArray, List.getElem_cons_zero, List.getElem_cons_succ, List.setIfInBounds_toArray, List.set_cons_zero, List.set_cons_succ]
    refine wpAnyH_done (by kernel_rfl) ?_ _
    go_wp2
    have HSB : Hid (∀ W, Kept (fun _ => False) wA.drew W → W.cell? ⟨s, 2, none⟩ = some (.map (some r)) ∧ W.heap[w.heap.size]? = some (.cells ds 28 (0, 0)) ∧ (Instr.lookup 59 (.map (some r)) (.agg ds) true).run Tryd.prog W = .ok (.tuple #[.agg #[.slice ao n c, .int .i64 st], .bool true]) W) := fun W hW => HS.out W ((Kept.refl _ wA).drew.trans hW)
    have HKB : Hid (Kept (fun _ => False) w wA.drew) := HKA.out.drew
    clear HS HKA cU
    generalize wA.drew = wB at *
    have HS := HSB
    clear HSB
    refine wp_region_held_drew (S := fun w' => w'.cell? ⟨s, 2, none⟩ = some (.map (some r)) ∧ w'.heap[w.heap.size]? = some (.cells ds 28 (0, 0)) ∧ (Instr.lookup 59 (.map (some r)) (.agg ds) true).run Tryd.prog w' = .ok (.tuple #[.agg #[.slice ao n c, .int .i64 st], .bool true]) w') (by kernel_rfl) (HS.out _ ((Kept.refl _ wB).drew)) (fun hHeld => ?_)
    refine wpAnyH_take (i := 0) (v := ?_) rfl (by kernel_rfl) (by kernel_rfl) (by kernel_rfl) (fun _ _ _ h => h) (Or.inl ⟨by rfl, ?_⟩) (by assumption) ?_
    rotate_left 1
    · intro w hSw
      obtain ⟨s1, s2, s3⟩ := hSw
      go_simp
      try with_reducible rfl
    try simp only [Act.put, List.getElem_toArray, List.getElem_cons_zero, List.getElem_cons_succ, List.setIfInBounds_toArray, List.set_cons_zero, List.set_cons_succ]
    refine wpAnyH_take (i := 1) (v := ?_) rfl (by kernel_rfl) (by kernel_rfl) (by kernel_rfl) (fun _ _ _ h => h) (Or.inl ⟨by rfl, ?_⟩) (by assumption) ?_
    rotate_left 1
    · intro w hSw
      obtain ⟨s1, s2, s3⟩ := hSw
      go_simp
      try with_reducible rfl
    try simp only [Act.put, List.getElem_toArray, List.getElem_cons_zero, List.getElem_cons_succ, List.setIfInBounds_toArray, List.set_cons_zero, List.set_cons_succ]
    refine wpAnyH_take (i := 2) (v := ?_) rfl (by kernel_rfl) (by kernel_rfl) (by kernel_rfl) (fun _ _ _ h => h) (Or.inl ⟨by rfl, ?_⟩) (by assumption) ?_
    rotate_left 1
    · intro w hSw
      obtain ⟨s1, s2, s3⟩ := hSw
      go_simp
      try with_reducible rfl
    try simp only [Act.put, List.getElem_toArray, List.getElem_cons_zero, List.getElem_cons_succ, List.setIfInBounds_toArray, List.set_cons_zero, List.set_cons_succ]
    refine wpAnyH_take (i := 3) (v := ?_) rfl (by kernel_rfl) (by kernel_rfl) (by kernel_rfl) (fun _ _ _ h => h) (Or.inl ⟨by rfl, ?_⟩) (by assumption) ?_
    rotate_left 1
    · intro w hSw
      obtain ⟨s1, s2, s3⟩ := hSw
      go_simp
      try with_reducible rfl
    try simp only [Act.put, List.getElem_toArray, List.getElem_cons_zero, List.getElem_cons_succ, List.setIfInBounds_toArray, List.set_cons_zero, List.set_cons_succ]
    refine wpAnyH_take (i := 4) (v := .agg ds) rfl (by kernel_rfl) (by kernel_rfl) (by kernel_rfl) (fun _ _ _ h => h) (yields_row (by rfl) 28 _ rfl w.heap.size rfl 28 ds (0, 0) _ (fun w hSw => hSw.2.1) Tryd.underlying28 rfl hds) (by assumption) ?_
    try simp only [Act.put, List.getElem_toArray, List.getElem_cons_zero, List.getElem_cons_succ, List.setIfInBounds_toArray, List.set_cons_zero, List.set_cons_succ]
    refine wpAnyH_take (i := 5) (v := ?_) rfl (by kernel_rfl) (by kernel_rfl) (by kernel_rfl) (fun _ _ _ h => h) (Or.inl ⟨by rfl, ?_⟩) (by assumption) ?_
    rotate_left 1
    · intro w hSw
      obtain ⟨s1, s2, s3⟩ := hSw
      go_simp
      try with_reducible rfl
    try simp only [Act.put, List.getElem_toArray, List.getElem_cons_zero, List.getElem_cons_succ, List.setIfInBounds_toArray, List.set_cons_zero, List.set_cons_succ]
    refine wpAnyH_take (i := 6) (v := ?_) rfl (by kernel_rfl) (by kernel_rfl) (by kernel_rfl) (fun _ _ _ h => h) (Or.inl ⟨by rfl, ?_⟩) (by assumption) ?_
    rotate_left 1
    · intro w hSw
      obtain ⟨s1, s2, s3⟩ := hSw
      go_simp
      try with_reducible rfl
    try simp only [Act.put, List.getElem_toArray, List.getElem_cons_zero, List.getElem_cons_succ, List.setIfInBounds_toArray, List.set_cons_zero, List.set_cons_succ]
    refine wpAnyH_take (i := 7) (v := ?_) rfl (by kernel_rfl) (by kernel_rfl) (by kernel_rfl) (fun _ _ _ h => h) (Or.inl ⟨by rfl, ?_⟩) (by assumption) ?_
    rotate_left 1
    · intro w hSw
      obtain ⟨s1, s2, s3⟩ := hSw
      go_simp
      try with_reducible rfl
    try simp only [Act.put, List.getElem_toArray, List.getElem_cons_zero, List.getElem_cons_succ, List.setIfInBounds_toArray, List.set_cons_zero, List.set_cons_succ]
    refine wpAnyH_take (i := 8) (v := ?_) rfl (by kernel_rfl) (by kernel_rfl) (by kernel_rfl) (fun _ _ _ h => h) (Or.inl ⟨by rfl, ?_⟩) (by assumption) ?_
    rotate_left 1
    · intro w hSw
      obtain ⟨s1, s2, s3⟩ := hSw
      go_simp
      try with_reducible rfl
    try simp only [Act.put, List.getElem_toArray, List.getElem_cons_zero, List.getElem_cons_succ, List.setIfInBounds_toArray, List.set_cons_zero, List.set_cons_succ]
    refine wpAnyH_ready (rs := [9]) (by kernel_rfl) (by simp) ?_
    refine AllReadyH.cons rfl (fun K hK => ?_) AllReadyH.nil
    go_simp
    refine hK.out _ _ (HS.out _ (((Kept.refl _ wB).alloc _).drew)) (fun hHeld => ?_)
    clear hK K
    try simp only [Act.put, List.getElem_toArray, List.getElem_cons_zero, List.getElem_cons_succ, List.setIfInBounds_toArray, List.set_cons_zero, List.set_cons_succ]
    refine wpAnyH_ready (rs := [10]) (by kernel_rfl) (by simp) ?_
    refine AllReadyH.cons rfl (fun K hK => ?_) AllReadyH.nil
    go_simp
    refine hK.out _ _ (HS.out _ (((Kept.refl _ wB).alloc _).drew)) (fun hHeld => ?_)
    clear hK K
    try simp only [Act.put, List.getElem_toArray, List.getElem_cons_zero, List.getElem_cons_succ, List.setIfInBounds_toArray, List.set_cons_zero, List.set_cons_succ]
    refine wpAnyH_take (i := 11) (v := ?_) rfl (by kernel_rfl) (by kernel_rfl) (by kernel_rfl) (fun _ _ _ h => h) (Or.inl ⟨by rfl, ?_⟩) (by assumption) ?_
    rotate_left 1
    · intro w hSw
      obtain ⟨s1, s2, s3⟩ := hSw
      go_simp
      try with_reducible rfl
    try simp only [Act.put, List.getElem_toArray, List.getElem_cons_zero, List.getElem_cons_succ, List.setIfInBounds_toArray, List.set_cons_zero, List.set_cons_succ]
    refine wpAnyH_done (by kernel_rfl) ?_ _
    have HKC : Hid (Kept (fun _ => False) w (wB.alloc (.cells #[.slice ao n c, .int .i64 st] 65)).drew) := (HKB.out.alloc _).drew
    have HC5 : Hid ((wB.alloc (.cells #[.slice ao n c, .int .i64 st] 65)).drew.cell? ⟨wB.heap.size, 0, none⟩ = some (.slice ao n c)) := (cell_block _ _ _ _ _ _ (alloc_new wB _ rfl)).trans rfl
    have HD3 : Hid ((wB.alloc (.cells #[.slice ao n c, .int .i64 st] 65)).drew.heap[w.heap.size]? = some (.cells ds 28 (0, 0))) := alloc_old (HS.out wB (Kept.refl _ _)).2.1
    generalize hb5 : wB.heap.size = b5 at *
    generalize (wB.alloc (.cells #[.slice ao n c, .int .i64 st] 65)).drew = wC at *
    clear HS HKB hb5 HL2
    have cC := HKC.out.cell HCP.out (fun f => f)
    have c5 := HC5.out
    go_wp2_with fail
    refine (cost_any ao n c _ (by omega)).mono ?_
    rintro e wD ⟨rfl, hwD⟩
    have hwE := hwD.symm
    clear hwD
    subst hwE
    have HSC := hid_of (HST.out.kept HKC.out (fun _ _ f => f))
    have c2 : wC.cell? ⟨s, 2, none⟩ = some (.map (some r)) := HSC.out.cell 2
    have c4 : wC.cell? ⟨s, 4, none⟩ = some (.int .i64 σ.sp) := HSC.out.cell 4
    have f4 := HSC.out.fz 4
    have HM3 := HSC.out.set (σ' := { σ with sp := σ.sp + 1 }) 4 (.int .i64 (σ.sp + 1)) rfl rfl
    have HSE := hid_of HM3.1
    have HKE : Hid (Kept (Own s (.map (some r))) w (wC.setCell ⟨s, 4, none⟩ (.int .i64 (σ.sp + 1)))) := (HKC.out.mono (T := Own s (.map (some r))) (fun _ _ f => f.elim)).trans (HM3.2.mono (fun _ _ f => .inl f))
    have HDE : Hid ((wC.setCell ⟨s, 4, none⟩ (.int .i64 (σ.sp + 1))).heap[w.heap.size]? = some (.cells ds 28 (0, 0))) := (HM3.2.block _ (heap_lt HD3.out) (by omega)).trans HD3.out
    have HXE : Hid (BIn (wC.setCell ⟨s, 4, none⟩ (.int .i64 (σ.sp + 1))) (.slice bo xs.length bc) xs) := (HX.out.kept2 HKC.out (fun _ _ _ f => f)).kept2 HM3.2 (fun hx0 g hg => hxs hx0 g hg)
    have hwsp : IntKind.i64.wrap (σ.sp + 1) = σ.sp + 1 := by rw [IntKind.wrap_i64]; omega
    have q0 := eqMap
    clear HM3 HSC
    go_wp2
    clear q0 c2 c4 f4
    generalize wC.setCell ⟨s, 4, none⟩ (.int .i64 (σ.sp + 1)) = wE at *
    have hown : ∀ i, i < w.heap.size → i = r → Own s (.map (some r)) i := fun i hi e => .inr (by rw [e])
    clear cC c5 HC5 HD3 HKC
    have HSX : Hid (∀ W, Kept (fun _ => False) wE W → W.cell? ⟨s, 2, none⟩ = some (.map (some r)) ∧ W.heap[w.heap.size]? = some (.cells ds 28 (0, 0)) ∧ W.cell? ⟨s, 4, none⟩ = some (.int .i64 (σ.sp + 1))) := fun W hW => by
      have hh := HSE.out.kept hW (fun _ _ f => f)
      exact ⟨hh.cell 2, (hW.block _ (heap_lt HDE.out) (fun f => f)).trans HDE.out, hh.cell 4⟩
    refine wp_region_held_drew (S := fun w' => w'.cell? ⟨s, 2, none⟩ = some (.map (some r)) ∧ w'.heap[w.heap.size]? = some (.cells ds 28 (0, 0)) ∧ w'.cell? ⟨s, 4, none⟩ = some (.int .i64 (σ.sp + 1))) (by kernel_rfl) (HSX.out _ ((Kept.refl _ wE).drew)) (fun hHeld => ?_)
    refine wpAnyH_take (i := 0) (v := ?_) rfl (by kernel_rfl) (by kernel_rfl) (by kernel_rfl) (fun _ _ _ h => h) (Or.inl ⟨by rfl, ?_⟩) (by assumption) ?_
    rotate_left 1
    · intro w hSw
      obtain ⟨s1, s2, s3⟩ := hSw
      go_simp
      try with_reducible rfl
    try simp only [Act.put, List.getElem_toArray, List.getElem_cons_zero, List.getElem_cons_succ, List.setIfInBounds_toArray, List.set_cons_zero, List.set_cons_succ]
    refine wpAnyH_take (i := 1) (v := ?_) rfl (by kernel_rfl) (by kernel_rfl) (by kernel_rfl) (fun _ _ _ h => h) (Or.inl ⟨by rfl, ?_⟩) (by assumption) ?_
    rotate_left 1
    · intro w hSw
      obtain ⟨s1, s2, s3⟩ := hSw
      go_simp
      try with_reducible rfl
    try simp only [Act.put, List.getElem_toArray, List.getElem_cons_zero, List.getElem_cons_succ, List.setIfInBounds_toArray, List.set_cons_zero, List.set_cons_succ]
    refine wpAnyH_take (i := 2) (v := ?_) rfl (by kernel_rfl) (by kernel_rfl) (by kernel_rfl) (fun _ _ _ h => h) (Or.inl ⟨by rfl, ?_⟩) (by assumption) ?_
    rotate_left 1
    · intro w hSw
      obtain ⟨s1, s2, s3⟩ := hSw
      go_simp
      try with_reducible rfl
    try simp only [Act.put, List.getElem_toArray, List.getElem_cons_zero, List.getElem_cons_succ, List.setIfInBounds_toArray, List.set_cons_zero, List.set_cons_succ]
    refine wpAnyH_take (i := 3) (v := ?_) rfl (by kernel_rfl) (by kernel_rfl) (by kernel_rfl) (fun _ _ _ h => h) (Or.inl ⟨by rfl, ?_⟩) (by assumption) ?_
    rotate_left 1
    · intro w hSw
      obtain ⟨s1, s2, s3⟩ := hSw
      go_simp
      try with_reducible rfl
    try simp only [Act.put, List.getElem_toArray, List.getElem_cons_zero, List.getElem_cons_succ, List.setIfInBounds_toArray, List.set_cons_zero, List.set_cons_succ]
    refine wpAnyH_take (i := 4) (v := .agg ds) rfl (by kernel_rfl) (by kernel_rfl) (by kernel_rfl) (fun _ _ _ h => h) (yields_row (by rfl) 28 _ rfl w.heap.size rfl 28 ds (0, 0) _ (fun w hSw => hSw.2.1) Tryd.underlying28 rfl hds) (by assumption) ?_
    try simp only [Act.put, List.getElem_toArray, List.getElem_cons_zero, List.getElem_cons_succ, List.setIfInBounds_toArray, List.set_cons_zero, List.set_cons_succ]
    refine wpAnyH_take (i := 5) (v := ?_) rfl (by kernel_rfl) (by kernel_rfl) (by kernel_rfl) (fun _ _ _ h => h) (Or.inl ⟨by rfl, ?_⟩) (by assumption) ?_
    rotate_left 1
    · intro w hSw
      obtain ⟨s1, s2, s3⟩ := hSw
      go_simp
      try with_reducible rfl
    try simp only [Act.put, List.getElem_toArray, List.getElem_cons_zero, List.getElem_cons_succ, List.setIfInBounds_toArray, List.set_cons_zero, List.set_cons_succ]
    refine wpAnyH_take (i := 7) (v := ?_) rfl (by kernel_rfl) (by kernel_rfl) (by kernel_rfl) (fun _ _ _ h => h) (Or.inl ⟨by rfl, ?_⟩) (by assumption) ?_
    rotate_left 1
    · intro w hSw
      obtain ⟨s1, s2, s3⟩ := hSw
      go_simp
      try with_reducible rfl
    try simp only [Act.put, List.getElem_toArray, List.getElem_cons_zero, List.getElem_cons_succ, List.setIfInBounds_toArray, List.set_cons_zero, List.set_cons_succ]
    refine wpAnyH_take (i := 8) (v := ?_) rfl (by kernel_rfl) (by kernel_rfl) (by kernel_rfl) (fun _ _ _ h => h) (Or.inl ⟨by rfl, ?_⟩) (by assumption) ?_
    rotate_left 1
    · intro w hSw
      obtain ⟨s1, s2, s3⟩ := hSw
      go_simp
      try with_reducible rfl
    try simp only [Act.put, List.getElem_toArray, List.getElem_cons_zero, List.getElem_cons_succ, List.setIfInBounds_toArray, List.set_cons_zero, List.set_cons_succ]
    refine wpAnyH_take (i := 9) (v := ?_) rfl (by kernel_rfl) (by kernel_rfl) (by kernel_rfl) (fun _ _ _ h => h) (Or.inl ⟨by rfl, ?_⟩) (by assumption) ?_
    rotate_left 1
    · intro w hSw
      obtain ⟨s1, s2, s3⟩ := hSw
      go_simp
      try with_reducible rfl
    try simp only [Act.put, List.getElem_toArray, List.getElem_cons_zero, List.getElem_cons_succ, List.setIfInBounds_toArray, List.set_cons_zero, List.set_cons_succ]
    refine wpAnyH_take (i := 10) (v := ?_) rfl (by kernel_rfl) (by kernel_rfl) (by kernel_rfl) (fun _ _ _ h => h) (Or.inl ⟨by rfl, ?_⟩) (by assumption) ?_
    rotate_left 1
    · intro w hSw
      obtain ⟨s1, s2, s3⟩ := hSw
      go_simp
      try with_reducible rfl
    try simp only [Act.put, List.getElem_toArray, List.getElem_cons_zero, List.getElem_cons_succ, List.setIfInBounds_toArray, List.set_cons_zero, List.set_cons_succ]
    refine wpAnyH_ready (rs := [6]) (by kernel_rfl) (by simp) ?_
    refine AllReadyH.cons rfl (fun K hK => ?_) AllReadyH.nil
    go_simp
    refine (clone_any (.slice bo xs.length bc) xs wE.drew (HXE.out.kept2 (Kept.refl (fun _ => False) wE).drew (fun _ _ _ f => f)) (by omega)).mono ?_
    rintro e w6 ⟨v', rfl, hv1, hv2, hk6⟩
    have hk6' : Kept (fun _ => False) wE w6 := (Kept.refl _ wE).drew.trans hk6
    obtain ⟨vo, vc, hvv, _, _⟩ := id hv1
    subst hvv
    have H6 := hid_of (HSE.out.kept hk6' (fun _ _ f => f))
    obtain ⟨clock, hb6, hrs⟩ : ∃ clock, w6.heap[r]? = some (.map (σ.es.map En.ent).toArray clock) ∧ (r ≠ s ∧ Stampd clock σ.es) := by
      rcases H6.out.map with ⟨hh, _⟩ | ⟨r', clock, hh, hb, hrs⟩
      · cases hh
      · cases hh
        exact ⟨clock, hb, hrs⟩
    obtain ⟨clock', hcl, hrun⟩ := HRL.out w6 r clock σ.es hb6 (fun e he => (H6.out.key e he).1) (.slice vo xs.length vc) (σ.sp + 1)
    have HE7 : Hid (Stor (World.over w6 r (.map ((lays σ.es ⟨d, .slice vo xs.length vc, xs, σ.sp + 1, clock⟩).map En.ent).toArray clock')) s (.map (some r)) { σ with sp := σ.sp + 1, es := lays σ.es ⟨d, .slice vo xs.length vc, xs, σ.sp + 1, clock⟩ }) :=
      Stor.entry (σ := { σ with sp := σ.sp + 1 }) (e := ⟨d, .slice vo xs.length vc, xs, σ.sp + 1, clock⟩) H6.out hb6 hrs HKY.out hv1 hxr hn (fun g hg => by have h7 := (hv2 g hg).1; have h8 := HSE.out.lt; have h9 : wE.drew.heap.size = wE.heap.size := rfl; omega) hcl rfl
    have HK7 : Hid (Kept (fun k => k = r) w6 (World.over w6 r (.map ((lays σ.es ⟨d, .slice vo xs.length vc, xs, σ.sp + 1, clock⟩).map En.ent).toArray clock'))) := kept_over _ _ _
    have HK6 := hid_of hk6'
    have HD6 := hid_of ((hk6'.block _ (heap_lt HDE.out) (fun f => f)).trans HDE.out)
    have HBB : Hid (∃ bv born, (∀ g, bv.ownBlock = some g → w.heap.size ≤ g) ∧ lays σ.es ⟨d, .slice vo xs.length vc, xs, σ.sp + 1, clock⟩ = lays σ.es ⟨d, bv, xs, σ.sp + 1, born⟩) := ⟨.slice vo xs.length vc, clock, fun g hg => by have h7 := (hv2 g hg).1; have h8 := HKE.out.size; have h9 : wE.drew.heap.size = wE.heap.size := rfl; omega, rfl⟩
    generalize lays σ.es ⟨d, .slice vo xs.length vc, xs, σ.sp + 1, clock⟩ = es2 at *
    generalize World.over w6 r (.map (es2.map En.ent).toArray clock') = w7 at *
    clear hv1 hv2 hk6 hk6' hb6 hcl hrs
    refine hK.out _ _ (HSX.out _ HK6.out) (fun hHeld => ?_)
    clear hK K
    try simp only [Act.put, List.getElem_toArray, List.getElem_cons_zero, List.getElem_cons_succ, List.setIfInBounds_toArray, List.set_cons_zero, List.set_cons_succ]
    refine wpAnyH_take (i := 11) (v := ?_) rfl (by kernel_rfl) (by kernel_rfl) (by kernel_rfl) (fun _ _ _ h => h) (Or.inl ⟨by rfl, ?_⟩) (by assumption) ?_
    rotate_left 1
    · intro w hSw
      obtain ⟨s1, s2, s3⟩ := hSw
      go_simp
      try with_reducible rfl
    try simp only [Act.put, List.getElem_toArray, List.getElem_cons_zero, List.getElem_cons_succ, List.setIfInBounds_toArray, List.set_cons_zero, List.set_cons_succ]
    refine wpAnyH_ready (rs := [12]) (by kernel_rfl) (by simp) ?_
    refine AllReadyH.cons rfl (fun K hK => ?_) AllReadyH.nil
    go_simp
    refine hK.out _ _ ⟨HE7.out.cell 2, (HK7.out.block _ (heap_lt HD6.out) (fun f => hrd f.symm)).trans HD6.out, HE7.out.cell 4⟩ (fun hHeld => ?_)
    clear hK K
    try simp only [Act.put, List.getElem_toArray, List.getElem_cons_zero, List.getElem_cons_succ, List.setIfInBounds_toArray, List.set_cons_zero, List.set_cons_succ]
    refine wpAnyH_done (by kernel_rfl) ?_ _
    have c3 : w7.cell? ⟨s, 3, none⟩ = some (.int .i64 σ.us) := HE7.out.cell 3
    have f3 := HE7.out.fz 3
    have HEND := hid_of (HE7.out.set (σ' := { σ with us := σ.us + ((xs.length : Int) + 32) - ((n : Int) + 32), sp := σ.sp + 1, es := es2 }) 3 (.int .i64 (σ.us + ((xs.length : Int) + 32) - ((n : Int) + 32))) rfl rfl)
    clear hrun HRL HSX
    go_wp2
    go_ret
    refine ⟨rfl, .map (some r), _, ?_, HEND.out.1, ?_, (.inl rfl)⟩
    · obtain ⟨bvv, born, hbg, hbb⟩ := HBB.out
      exact ⟨bvv, born, hbg, by rw [hus, hbb]⟩
    · exact HKE.out.step (((HK6.out.mono (T := fun k => k = s ∨ k = r) (fun _ _ f => f.elim)).trans (HK7.out.mono (fun _ _ f => .inr f))).trans (HEND.out.2.mono (fun _ _ f => .inl f))) (fun i hi f => by rcases f with f | f; exact .inl f; exact hown i hi f)
end Go.Proofs.YtjdbmjkidljhpaaDoor

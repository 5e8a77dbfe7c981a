/-
  Store.Has, Raw, by contract.
-/
import Derived.Test.YtjdbmjkidljhpaaDoorCputi
namespace Go.Proofs.YtjdbmjkidljhpaaDoor
open Go.RowKit
set_option linter.unusedVariables false
set_option linter.unusedSimpArgs false
set_option maxRecDepth 100000

set_option maxHeartbeats 4000000 in
theorem has_any {w : World} {s : Nat} {mv : Value} {σ : Sg} (h : Stor w s mv σ) (d : List Int) (hd : d.length = 32) :
    Calls Tryd.prog 34 #[.pointer (some ⟨s, 0, none⟩), dv d] w fun e w' => e = .returned (.bool (look σ.es d).isSome) ∧ Kept (fun _ => False) w w' := by
  obtain ⟨ao, n, c, st, hV⟩ := h.shape d
  have hds := size28_of d hd
  have HL2 : Hid (∀ W, Kept (fun _ => False) w W → (Instr.lookup 59 mv (.agg (d.map (Value.int .u8)).toArray) true).run Tryd.prog W = .ok (.tuple #[.agg #[.slice ao n c, .int .i64 st], .bool (look σ.es d).isSome]) W) := fun W hW => by
    have := h.lookw d hd true W hW
    rw [hV] at this
    exact this
  have HM : Hid (w.cell? ⟨s, 2, none⟩ = some mv) := h.cell 2
  clear h hV
  unfold dv
  generalize (look σ.es d).isSome = tt at *
  generalize (d.map (Value.int .u8)).toArray = ds at *
  have HS : Hid (∀ W, Kept (fun _ => False) (w.alloc (.cells ds 28)) W → W.cell? ⟨s, 2, none⟩ = some mv ∧ W.heap[w.heap.size]? = some (.cells ds 28 (0, 0)) ∧ (Instr.lookup 59 mv (.agg ds) true).run Tryd.prog W = .ok (.tuple #[.agg #[.slice ao n c, .int .i64 st], .bool tt]) W) := fun W hW =>
    ⟨hW.cell ((Kept.refl (fun _ => False) w).alloc _ |>.cell HM.out (fun f => f)) (fun f => f), (hW.block _ (by simp) (fun f => f)).trans (alloc_new _ _ rfl), HL2.out W (((Kept.refl (fun _ => False) w).alloc _).trans hW)⟩
  have HKA : Hid (Kept (fun _ => False) w (w.alloc (.cells ds 28))) := (Kept.refl _ w).alloc _
  go_enter Tryd.func34, Tryd.ntmps34
  go_wp2
  generalize w.alloc (.cells ds 28) = wA at *
  refine wp_region_held_drew (S := fun w' => w'.cell? ⟨s, 2, none⟩ = some mv ∧ w'.heap[w.heap.size]? = some (.cells ds 28 (0, 0)) ∧ (Instr.lookup 59 mv (.agg ds) true).run Tryd.prog w' = .ok (.tuple #[.agg #[.slice ao n c, .int .i64 st], .bool tt]) w') (by kernel_rfl) (HS.out _ ((Kept.refl _ wA).drew)) (fun hHeld => ?_)
  refine wpAnyH_take (i := 0) (v := ?_) rfl (by kernel_rfl) (by kernel_rfl) (by kernel_rfl) (fun _ _ _ h => h) (Or.inl ⟨by rfl, ?_⟩) (by assumption) ?_
  rotate_left 1
  · intro w hSw
    obtain ⟨s1, s2, s3⟩ := hSw
    go_simp
    try with_reducible rfl
  try simp only [Act.put, List.getElem_toArray, List.getElem_cons_zero, List.getElem_cons_succ, List.setIfInBounds_toArray, List.set_cons_zero, List.set_cons_succ]
  refine wpAnyH_take (i := 1) (v := ?_) rfl (by kernel_rfl) (by kernel_rfl) (by kernel_rfl) (fun _ _ _ h => h) (Or.inl ⟨by rfl, ?_⟩) (by assumption) ?_
  rotate_left 1
  · intro w hSw
    obtain ⟨s1, s2, s3⟩ := hSw
    go_simp
    try with_reducible rfl
  try simp only [Act.put, List.getElem_toArray, List.getElem_cons_zero, List.getElem_cons_succ, List.setIfInBounds_toArray, List.set_cons_zero, List.set_cons_succ]
  refine wpAnyH_take (i := 2) (v := ?_) rfl (by kernel_rfl) (by kernel_rfl) (by kernel_rfl) (fun _ _ _ h => h) (Or.inl ⟨by rfl, ?_⟩) (by assumption) ?_
  rotate_left 1
  · intro w hSw
    obtain ⟨s1, s2, s3⟩ := hSw
    go_simp
    try with_reducible rfl
  try simp only [Act.put, List.getElem_toArray, List.getElem_cons_zero, List.getElem_cons_succ, List.setIfInBounds_toArray, List.set_cons_zero, List.set_cons_succ]
  refine wpAnyH_take (i := 3) (v := ?_) rfl (by kernel_rfl) (by kernel_rfl) (by kernel_rfl) (fun _ _ _ h => h) (Or.inl ⟨by rfl, ?_⟩) (by assumption) ?_
  rotate_left 1
  · intro w hSw
    obtain ⟨s1, s2, s3⟩ := hSw
    go_simp
    try with_reducible rfl
  try simp only [Act.put, List.getElem_toArray, List.getElem_cons_zero, List.getElem_cons_succ, List.setIfInBounds_toArray, List.set_cons_zero, List.set_cons_succ]
  refine wpAnyH_take (i := 4) (v := .agg ds) rfl (by kernel_rfl) (by kernel_rfl) (by kernel_rfl) (fun _ _ _ h => h) (yields_row (by rfl) 28 _ rfl w.heap.size rfl 28 ds (0, 0) _ (fun w hSw => hSw.2.1) Tryd.underlying28 rfl hds) (by assumption) ?_
  try simp only [Act.put, List.getElem_toArray, List.getElem_cons_zero, List.getElem_cons_succ, List.setIfInBounds_toArray, List.set_cons_zero, List.set_cons_succ]
  refine wpAnyH_take (i := 5) (v := ?_) rfl (by kernel_rfl) (by kernel_rfl) (by kernel_rfl) (fun _ _ _ h => h) (Or.inl ⟨by rfl, ?_⟩) (by assumption) ?_
  rotate_left 1
  · intro w hSw
    obtain ⟨s1, s2, s3⟩ := hSw
    go_simp
    try with_reducible rfl
  try simp only [Act.put, List.getElem_toArray, List.getElem_cons_zero, List.getElem_cons_succ, List.setIfInBounds_toArray, List.set_cons_zero, List.set_cons_succ]
  refine wpAnyH_take (i := 6) (v := ?_) rfl (by kernel_rfl) (by kernel_rfl) (by kernel_rfl) (fun _ _ _ h => h) (Or.inl ⟨by rfl, ?_⟩) (by assumption) ?_
  rotate_left 1
  · intro w hSw
    obtain ⟨s1, s2, s3⟩ := hSw
    go_simp
    try with_reducible rfl
  try simp only [Act.put, List.getElem_toArray, List.getElem_cons_zero, List.getElem_cons_succ, List.setIfInBounds_toArray, List.set_cons_zero, List.set_cons_succ]
  refine wpAnyH_take (i := 7) (v := ?_) rfl (by kernel_rfl) (by kernel_rfl) (by kernel_rfl) (fun _ _ _ h => h) (Or.inl ⟨by rfl, ?_⟩) (by assumption) ?_
  rotate_left 1
  · intro w hSw
    obtain ⟨s1, s2, s3⟩ := hSw
    go_simp
    try with_reducible rfl
  try simp only [Act.put, List.getElem_toArray, List.getElem_cons_zero, List.getElem_cons_succ, List.setIfInBounds_toArray, List.set_cons_zero, List.set_cons_succ]
  refine wpAnyH_take (i := 8) (v := ?_) rfl (by kernel_rfl) (by kernel_rfl) (by kernel_rfl) (fun _ _ _ h => h) (Or.inl ⟨by rfl, ?_⟩) (by assumption) ?_
  rotate_left 1
  · intro w hSw
    obtain ⟨s1, s2, s3⟩ := hSw
    go_simp
    try with_reducible rfl
  try simp only [Act.put, List.getElem_toArray, List.getElem_cons_zero, List.getElem_cons_succ, List.setIfInBounds_toArray, List.set_cons_zero, List.set_cons_succ]
  refine wpAnyH_ready (rs := [9]) (by kernel_rfl) (by simp) ?_
  refine AllReadyH.cons rfl (fun K hK => ?_) AllReadyH.nil
  go_simp
  refine hK.out _ _ (HS.out _ (((Kept.refl _ wA).alloc _).drew)) (fun hHeld => ?_)
  clear hK K
  try simp only [Act.put, List.getElem_toArray, List.getElem_cons_zero, List.getElem_cons_succ, List.setIfInBounds_toArray, List.set_cons_zero, List.set_cons_succ]
  refine wpAnyH_ready (rs := [10]) (by kernel_rfl) (by simp) ?_
  refine AllReadyH.cons rfl (fun K hK => ?_) AllReadyH.nil
  go_simp
  refine hK.out _ _ (HS.out _ (((Kept.refl _ wA).alloc _).drew)) (fun hHeld => ?_)
  clear hK K
  try simp only [Act.put, List.getElem_toArray, List.getElem_cons_zero, List.getElem_cons_succ, List.setIfInBounds_toArray, List.set_cons_zero, List.set_cons_succ]
  refine wpAnyH_take (i := 11) (v := ?_) rfl (by kernel_rfl) (by kernel_rfl) (by kernel_rfl) (fun _ _ _ h => h) (Or.inl ⟨by rfl, ?_⟩) (by assumption) ?_
  rotate_left 1
  · intro w hSw
    obtain ⟨s1, s2, s3⟩ := hSw
    go_simp
    try with_reducible rfl
  try simp only [Act.put, List.getElem_toArray, List.getElem_cons_zero, List.getElem_cons_succ, List.setIfInBounds_toArray, List.set_cons_zero, List.set_cons_succ]
  refine wpAnyH_done (by kernel_rfl) ?_ _
  go_wp2
  go_ret
  exact ⟨rfl, (HKA.out.alloc _).drew⟩

/-- The bytes that lie under a digest. -/
def rawX (es : List En) (d : List Int) : List Int := match look es d with | some e => e.xs | none => []
theorem Stor.rawb {w : World} {s : Nat} {mv : Value} {σ : Sg} (h : Stor w s mv σ) (d : List Int) {ao : Option Addr} {n c : Nat} {st : Int} (hV : lookV σ.es d = .agg #[.slice ao n c, .int .i64 st]) : BIn w (.slice ao n c) (rawX σ.es d) ∧ (rawX σ.es d).length ≤ 1048576 ∧ ∀ x ∈ rawX σ.es d, 0 ≤ x ∧ x < 256 := by
  unfold lookV at hV
  unfold rawX
  cases hl : look σ.es d with
  | none =>
    rw [hl] at hV
    unfold noLaid at hV
    injection hV with hV
    have := congrArg (fun a => a[0]?) hV
    simp at this
    obtain ⟨rfl, rfl, rfl⟩ := this
    exact ⟨⟨none, 0, rfl, Nat.le_refl _, .inl rfl⟩, Nat.zero_le _, fun x hx => (by cases hx)⟩
  | some e =>
    rw [hl] at hV
    have hV2 : Value.agg #[e.bv, .int .i64 e.st] = .agg #[.slice ao n c, .int .i64 st] := hV
    injection hV2 with hV2
    have h7 := congrArg (fun a => a[0]?) hV2
    have h8 : e.bv = .slice ao n c := by simpa using h7
    have hb := h.blob e (look_mem _ _ _ hl).1
    rw [h8] at hb
    exact ⟨hb.1, hb.2.2.1, hb.2.1⟩

set_option maxHeartbeats 4000000 in
theorem raw_any {w : World} {s : Nat} {mv : Value} {σ : Sg} (h : Stor w s mv σ) (d : List Int) (hd : d.length = 32) :
    Calls Tryd.prog 19 #[.pointer (some ⟨s, 0, none⟩), dv d] w fun e w' => ∃ v, e = .returned (.tuple #[v, .bool (look σ.es d).isSome]) ∧ BIn w' v (rawX σ.es d) ∧ (∀ g, v.ownBlock = some g → w.heap.size ≤ g) ∧ Kept (fun _ => False) w w' := by
  obtain ⟨ao, n, c, st, hV⟩ := h.shape d
  have hds := size28_of d hd
  have HL2 : Hid (∀ W, Kept (fun _ => False) w W → (Instr.lookup 59 mv (.agg (d.map (Value.int .u8)).toArray) true).run Tryd.prog W = .ok (.tuple #[.agg #[.slice ao n c, .int .i64 st], .bool (look σ.es d).isSome]) W) := fun W hW => by
    have := h.lookw d hd true W hW
    rw [hV] at this
    exact this
  have HM : Hid (w.cell? ⟨s, 2, none⟩ = some mv) := h.cell 2
  obtain ⟨hb1, hb2, hb3⟩ := h.rawb d hV
  have HCL : Hid (∀ W, Kept (fun _ => False) w W → Calls Tryd.prog 35 #[.slice ao n c] W fun e w' => ∃ v', e = .returned v' ∧ BIn w' v' (rawX σ.es d) ∧ (∀ g, v'.ownBlock = some g → W.heap.size ≤ g ∧ g < w'.heap.size) ∧ Kept (fun _ => False) W w') := fun W hW => clone_any _ _ W (hb1.kept2 hW (fun _ _ _ f => f)) (by omega)
  generalize rawX σ.es d = xs at *
  clear h hV hb1 hb2 hb3
  unfold dv
  generalize (look σ.es d).isSome = tt at *
  generalize (d.map (Value.int .u8)).toArray = ds at *
  have HS : Hid (∀ W, Kept (fun _ => False) (w.alloc (.cells ds 28)) W → W.cell? ⟨s, 2, none⟩ = some mv ∧ W.heap[w.heap.size]? = some (.cells ds 28 (0, 0)) ∧ (Instr.lookup 59 mv (.agg ds) true).run Tryd.prog W = .ok (.tuple #[.agg #[.slice ao n c, .int .i64 st], .bool tt]) W) := fun W hW =>
    ⟨hW.cell ((Kept.refl (fun _ => False) w).alloc _ |>.cell HM.out (fun f => f)) (fun f => f), (hW.block _ (by simp) (fun f => f)).trans (alloc_new _ _ rfl), HL2.out W (((Kept.refl (fun _ => False) w).alloc _).trans hW)⟩
  have HKA : Hid (Kept (fun _ => False) w (w.alloc (.cells ds 28))) := (Kept.refl _ w).alloc _
  go_enter Tryd.func19, Tryd.ntmps19
  go_wp2
  generalize w.alloc (.cells ds 28) = wA at *
  refine wp_region_held_drew (S := fun w' => w'.cell? ⟨s, 2, none⟩ = some mv ∧ w'.heap[w.heap.size]? = some (.cells ds 28 (0, 0)) ∧ (Instr.lookup 59 mv (.agg ds) true).run Tryd.prog w' = .ok (.tuple #[.agg #[.slice ao n c, .int .i64 st], .bool tt]) w') (by kernel_rfl) (HS.out _ ((Kept.refl _ wA).drew)) (fun hHeld => ?_)
  refine wpAnyH_take (i := 0) (v := ?_) rfl (by kernel_rfl) (by kernel_rfl) (by kernel_rfl) (fun _ _ _ h => h) (Or.inl ⟨by rfl, ?_⟩) (by assumption) ?_
  rotate_left 1
  · intro w hSw
    obtain ⟨s1, s2, s3⟩ := hSw
    go_simp
    try with_reducible rfl
  try simp only [Act.put, List.getElem_toArray, List.getElem_cons_zero, List.getElem_cons_succ, List.setIfInBounds_toArray, List.set_cons_zero, List.set_cons_succ]
  refine wpAnyH_take (i := 1) (v := ?_) rfl (by kernel_rfl) (by kernel_rfl) (by kernel_rfl) (fun _ _ _ h => h) (Or.inl ⟨by rfl, ?_⟩) (by assumption) ?_
  rotate_left 1
  · intro w hSw
    obtain ⟨s1, s2, s3⟩ := hSw
    go_simp
    try with_reducible rfl
  try simp only [Act.put, List.getElem_toArray, List.getElem_cons_zero, List.getElem_cons_succ, List.setIfInBounds_toArray, List.set_cons_zero, List.set_cons_succ]
  refine wpAnyH_take (i := 2) (v := ?_) rfl (by kernel_rfl) (by kernel_rfl) (by kernel_rfl) (fun _ _ _ h => h) (Or.inl ⟨by rfl, ?_⟩) (by assumption) ?_
  rotate_left 1
  · intro w hSw
    obtain ⟨s1, s2, s3⟩ := hSw
    go_simp
    try with_reducible rfl
  try simp only [Act.put, List.getElem_toArray, List.getElem_cons_zero, List.getElem_cons_succ, List.setIfInBounds_toArray, List.set_cons_zero, List.set_cons_succ]
  refine wpAnyH_take (i := 3) (v := ?_) rfl (by kernel_rfl) (by kernel_rfl) (by kernel_rfl) (fun _ _ _ h => h) (Or.inl ⟨by rfl, ?_⟩) (by assumption) ?_
  rotate_left 1
  · intro w hSw
    obtain ⟨s1, s2, s3⟩ := hSw
    go_simp
    try with_reducible rfl
  try simp only [Act.put, List.getElem_toArray, List.getElem_cons_zero, List.getElem_cons_succ, List.setIfInBounds_toArray, List.set_cons_zero, List.set_cons_succ]
  refine wpAnyH_take (i := 4) (v := .agg ds) rfl (by kernel_rfl) (by kernel_rfl) (by kernel_rfl) (fun _ _ _ h => h) (yields_row (by rfl) 28 _ rfl w.heap.size rfl 28 ds (0, 0) _ (fun w hSw => hSw.2.1) Tryd.underlying28 rfl hds) (by assumption) ?_
  try simp only [Act.put, List.getElem_toArray, List.getElem_cons_zero, List.getElem_cons_succ, List.setIfInBounds_toArray, List.set_cons_zero, List.set_cons_succ]
  refine wpAnyH_take (i := 5) (v := ?_) rfl (by kernel_rfl) (by kernel_rfl) (by kernel_rfl) (fun _ _ _ h => h) (Or.inl ⟨by rfl, ?_⟩) (by assumption) ?_
  rotate_left 1
  · intro w hSw
    obtain ⟨s1, s2, s3⟩ := hSw
    go_simp
    try with_reducible rfl
  try simp only [Act.put, List.getElem_toArray, List.getElem_cons_zero, List.getElem_cons_succ, List.setIfInBounds_toArray, List.set_cons_zero, List.set_cons_succ]
  refine wpAnyH_take (i := 6) (v := ?_) rfl (by kernel_rfl) (by kernel_rfl) (by kernel_rfl) (fun _ _ _ h => h) (Or.inl ⟨by rfl, ?_⟩) (by assumption) ?_
  rotate_left 1
  · intro w hSw
    obtain ⟨s1, s2, s3⟩ := hSw
    go_simp
    try with_reducible rfl
  try simp only [Act.put, List.getElem_toArray, List.getElem_cons_zero, List.getElem_cons_succ, List.setIfInBounds_toArray, List.set_cons_zero, List.set_cons_succ]
  refine wpAnyH_take (i := 7) (v := ?_) rfl (by kernel_rfl) (by kernel_rfl) (by kernel_rfl) (fun _ _ _ h => h) (Or.inl ⟨by rfl, ?_⟩) (by assumption) ?_
  rotate_left 1
  · intro w hSw
    obtain ⟨s1, s2, s3⟩ := hSw
    go_simp
    try with_reducible rfl
  try simp only [Act.put, List.getElem_toArray, List.getElem_cons_zero, List.getElem_cons_succ, List.setIfInBounds_toArray, List.set_cons_zero, List.set_cons_succ]
  refine wpAnyH_take (i := 8) (v := ?_) rfl (by kernel_rfl) (by kernel_rfl) (by kernel_rfl) (fun _ _ _ h => h) (Or.inl ⟨by rfl, ?_⟩) (by assumption) ?_
  rotate_left 1
  · intro w hSw
    obtain ⟨s1, s2, s3⟩ := hSw
    go_simp
    try with_reducible rfl
  try simp only [Act.put, List.getElem_toArray, List.getElem_cons_zero, List.getElem_cons_succ, List.setIfInBounds_toArray, List.set_cons_zero, List.set_cons_succ]
  refine wpAnyH_ready (rs := [9]) (by kernel_rfl) (by simp) ?_
  refine AllReadyH.cons rfl (fun K hK => ?_) AllReadyH.nil
  go_simp
  refine hK.out _ _ (HS.out _ (((Kept.refl _ wA).alloc _).drew)) (fun hHeld => ?_)
  clear hK K
  try simp only [Act.put, List.getElem_toArray, List.getElem_cons_zero, List.getElem_cons_succ, List.setIfInBounds_toArray, List.set_cons_zero, List.set_cons_succ]
  refine wpAnyH_ready (rs := [10]) (by kernel_rfl) (by simp) ?_
  refine AllReadyH.cons rfl (fun K hK => ?_) AllReadyH.nil
  go_simp
  refine hK.out _ _ (HS.out _ (((Kept.refl _ wA).alloc _).drew)) (fun hHeld => ?_)
  clear hK K
  try simp only [Act.put, List.getElem_toArray, List.getElem_cons_zero, List.getElem_cons_succ, List.setIfInBounds_toArray, List.set_cons_zero, List.set_cons_succ]
  refine wpAnyH_take (i := 11) (v := ?_) rfl (by kernel_rfl) (by kernel_rfl) (by kernel_rfl) (fun _ _ _ h => h) (Or.inl ⟨by rfl, ?_⟩) (by assumption) ?_
  rotate_left 1
  · intro w hSw
    obtain ⟨s1, s2, s3⟩ := hSw
    go_simp
    try with_reducible rfl
  try simp only [Act.put, List.getElem_toArray, List.getElem_cons_zero, List.getElem_cons_succ, List.setIfInBounds_toArray, List.set_cons_zero, List.set_cons_succ]
  refine wpAnyH_done (by kernel_rfl) ?_ _
  have c5 : (wA.alloc (.cells #[.slice ao n c, .int .i64 st] 65)).drew.cell? ⟨wA.heap.size, 0, none⟩ = some (.slice ao n c) := (cell_block _ _ _ _ _ _ (alloc_new wA _ rfl)).trans rfl
  have HKB : Hid (Kept (fun _ => False) w (wA.alloc (.cells #[.slice ao n c, .int .i64 st] 65)).drew) := (HKA.out.alloc _).drew
  generalize wA.heap.size = b5 at *
  generalize (wA.alloc (.cells #[.slice ao n c, .int .i64 st] 65)).drew = wB at *
  go_wp2_with fail
  refine (HCL.out wB HKB.out).mono ?_
  rintro e w2 ⟨v, rfl, hv1, hv2, hk2⟩
  have HV1 := hid_of hv1
  have HV2 : Hid (∀ g, v.ownBlock = some g → w.heap.size ≤ g) := fun g hg => Nat.le_trans HKB.out.size (hv2 g hg).1
  have HK2 := hid_of (HKB.out.trans hk2)
  clear hv1 hv2 hk2
  go_wp2
  exact bodyPost_ret (v := .tuple #[v, .bool tt]) (by simp [results, Tryd.results19, go_sem]) rfl ⟨v, rfl, HV1.out, HV2.out, HK2.out⟩
end Go.Proofs.YtjdbmjkidljhpaaDoor

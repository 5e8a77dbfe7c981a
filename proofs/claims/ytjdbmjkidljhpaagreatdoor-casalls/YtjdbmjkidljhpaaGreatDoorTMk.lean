/-
 Mk: Csteps, Clayf, Clay, Claym, Cput0.
-/
import Derived.Test.YtjdbmjkidljhpaaGreatDoorTMi
import Derived.WalkSpells
namespace Go.Proofs.YtjdbmjkidljhpaaGreatDoor
open Go.RowKit
set_option linter.unusedVariables false
set_option linter.unusedSimpArgs false
set_option maxRecDepth 100000
theorem lays_mem : ∀ (es : List En) (e x : En), x ∈ lays es e → x ∈ es ∨ ∃ b, x = { e with born := b }
 | [], e, x, h => by
  rw [lays, List.mem_singleton] at h
  exact .inr ⟨e.born, by rw [h]⟩
 | y :: es, e, x, h => by
  rw [lays] at h
  split at h
  ·rcases List.mem_cons.1 h with h | h
   ·exact .inr ⟨y.born, h⟩
   ·exact .inl (List.mem_cons_of_mem _ h)
  ·rcases List.mem_cons.1 h with h | h
   ·exact .inl (by rw [h]; exact List.mem_cons_self ..)
   ·rcases lays_mem es e x h with h | h
    ·exact .inl (List.mem_cons_of_mem _ h)
    ·exact .inr h
/-- The Store's first map. -/
theorem Stor.newmap {W : World} {s : Nat} {σ : Sg} (h : Stor W s (.map none) σ) :
  Stor ((W.setCell ⟨s, 2, none⟩ (.map (some W.heap.size))).alloc (.map #[] 0)) s (.map (some W.heap.size)) σ ∧ Kept (fun k => k = s) W ((W.setCell ⟨s, 2, none⟩ (.map (some W.heap.size))).alloc (.map #[] 0)) := by
 have he : σ.es = [] := by
  rcases h.map with ⟨_, h1⟩ | ⟨r, c, h1, _⟩
  ·exact h1
  ·cases h1
 have hk : Kept (fun k => k = s) W ((W.setCell ⟨s, 2, none⟩ (.map (some W.heap.size))).alloc (.map #[] 0)) := (kept_set W ⟨s, 2, none⟩ _).alloc _
 have hlt := h.lt
 have hsz : (W.setCell ⟨s, 2, none⟩ (.map (some W.heap.size))).heap.size = W.heap.size := by simp [World.setCell]
 refine ⟨⟨alloc_old (by rw [set_block _ _ _ _ _ _ h.blk]; rfl), .inr ⟨W.heap.size, 0, rfl, ?_, by omega, by rw [he]; exact ⟨fun b hb => (by cases hb), List.nodup_nil, List.nodup_nil⟩⟩, fun e hh => (by rw [he] at hh; cases hh), fun e hh => (by rw [he] at hh; cases hh)⟩, hk⟩
 rw [he]
 exact alloc_new _ _ hsz.symm
/-- An entry more. -/
theorem Stor.entry {W : World} {s r clock clock' : Nat} {σ : Sg} {e : En} (h : Stor W s (.map (some r)) σ) (hb : W.heap[r]? = some (.map (σ.es.map En.ent).toArray clock)) (hrs : r ≠ s ∧ Stampd clock σ.es) (hk : e.k.length = 32 ∧ ∀ x ∈ e.k, 0 ≤ x ∧ x < 256)
  (hx : BIn W e.bv e.xs) (hxr : ∀ x ∈ e.xs, 0 ≤ x ∧ x < 256) (hxl : e.xs.length ≤ 1048576) (hxs : ∀ g, e.bv.ownBlock = some g → g ≠ s) (hcl : Ticks clock clock' σ.es e.k) (hbn : e.born = clock) :
  Stor (World.over W r (.map ((lays σ.es e).map En.ent).toArray clock')) s (.map (some r)) { σ with es := lays σ.es e } := by
 have hkp := kept_over W r (.map ((lays σ.es e).map En.ent).toArray clock')
 refine ⟨(hkp.block s h.lt (fun e => hrs.1 e.symm)).trans h.blk, .inr ⟨r, clock', rfl, over_same W r _ (heap_lt hb), hrs.1, lays_stampd hrs.2 hcl hbn⟩, fun x hxm => ?_, fun x hxm => ?_⟩
 ·rcases lays_mem _ _ _ hxm with h1 | ⟨b, rfl⟩
  ·exact h.key x h1
  ·exact hk
 ·rcases lays_mem _ _ _ hxm with h1 | ⟨b, rfl⟩
  ·obtain ⟨a1, a2, a3, a4⟩ := h.blob x h1
   exact ⟨a1.kept2 hkp (fun hx g hg e => by subst e; exact not_map a1 hx hb hg), a2, a3, a4⟩
  ·exact ⟨hx.kept2 hkp (fun hx0 g hg e => by subst e; exact not_map hx hx0 hb hg), hxr, hxl, fun _ => hxs⟩
theorem eqMap (w : World) (r : Option Nat) : (binOp .eql 63 (.map r) (.map none)).run Tryz.prog w = .ok (.bool r.isNone) w := run_eql_map_nil w 63 29 87 r Tryz.underlying63
/-- What is used behind a laying. -/
def usedOf (σ : Sg) (d xs : List Int) : Int := σ.us + ((xs.length : Int) + 32) - (match look σ.es d with | some e => (e.xs.length : Int) + 32 | none => 0)
/-- The Store behind a laying. -/
def LayOk (B : Nat) (σ σ' : Sg) (d xs : List Int) : Prop := ∃ bv born, (∀ g, bv.ownBlock = some g → B ≤ g) ∧ σ' = { σ with us := usedOf σ d xs, sp := σ.sp + 1, es := lays σ.es ⟨d, bv, xs, σ.sp + 1, born⟩ }
end Go.Proofs.YtjdbmjkidljhpaaGreatDoor
namespace Go.Proofs.YtjdbmjkidljhpaaGreatDoor
open Go.RowKit
set_option linter.unusedVariables false
set_option linter.unusedSimpArgs false
set_option maxRecDepth 100000
set_option maxHeartbeats 4000000 in
theorem lay_full {w : World} {s : Nat} {mv : Value} {σ : Sg} (h : Stor w s mv σ) (d : List Int) (hd : d.length = 32) (bv : Value) (xs : List Int) (hx : BIn w bv xs) (hn : xs.length ≤ 1048576) (hu : 0 ≤ σ.us) (hu2 : σ.us ≤ 1099511627776) (hov : σ.cp < usedOf σ d xs) :
  Calls Tryz.prog 51 #[.pointer (some ⟨s, 0, none⟩), dv d, bv] w fun e w' => e = .returned (.int .i64 43) ∧ Kept (fun _ => False) w w' := by
 obtain ⟨bo, bc, hbv, _, _⟩ := id hx
 subst hbv
 obtain ⟨ao, n, c, st, hV⟩ := h.shape d
 have hds := size28_of d hd
 have HL2 : Hid (∀ W, Kept (fun _ => False) w W → (Instr.lookup 63 mv (.agg (d.map (Value.int .u8)).toArray) true).run Tryz.prog W = .ok (.tuple #[.agg #[.slice ao n c, .int .i64 st], .bool (look σ.es d).isSome]) W) := fun W hW => by
  have := h.lookw d hd true W hW
  rw [hV] at this
  exact this
 have HM : Hid (w.cell? ⟨s, 2, none⟩ = some mv) := h.cell 2
 have HU : Hid (w.cell? ⟨s, 3, none⟩ = some (.int .i64 σ.us)) := h.cell 3
 have HCP : Hid (w.cell? ⟨s, 1, none⟩ = some (.int .i64 σ.cp)) := h.cell 1
 have HN : Hid (match look σ.es d with | some e => n = e.xs.length | none => n = 0 ∧ ao = none) := by
  show match look σ.es d with | some e => n = e.xs.length | none => n = 0 ∧ ao = none
  unfold lookV at hV
  cases hl : look σ.es d with
  | none =>
   rw [hl] at hV
   unfold noLaid at hV
   injection hV with hV
   have := congrArg (fun a => a[0]?) hV
   simp at this
   exact ⟨this.2.1.symm, this.1.symm⟩
  | some e =>
   rw [hl] at hV
   obtain ⟨eo, ec, he, _⟩ := (h.blob e (look_mem _ _ _ hl).1).1
   have hV2 : Value.agg #[e.bv, .int .i64 e.st] = .agg #[.slice ao n c, .int .i64 st] := hV
   rw [he] at hV2
   injection hV2 with hV2
   have := congrArg (fun a => a[0]?) hV2
   simp at this
   exact this.2.1.symm
 have HE : Hid (∀ e, look σ.es d = some e → e.xs.length ≤ 1048576) := fun e he => (h.blob e (look_mem _ _ _ he).1).2.2.1
 unfold usedOf at hov
 unfold dv
 clear h hV hx
 generalize (d.map (Value.int .u8)).toArray = ds at *
 cases hl : look σ.es d with
 | none =>
  rw [hl] at HL2 HN hov
  have hov2 : σ.cp < σ.us + ((xs.length : Int) + 32) := by simpa using hov
  clear hov HE hl HN
  have HS : Hid (∀ W, Kept (fun _ => False) (w.alloc (.cells ds 29)) W → W.cell? ⟨s, 2, none⟩ = some mv ∧ W.heap[w.heap.size]? = some (.cells ds 29 (0, 0)) ∧ (Instr.lookup 63 mv (.agg ds) true).run Tryz.prog W = .ok (.tuple #[.agg #[.slice ao n c, .int .i64 st], .bool false]) W) := fun W hW =>
   ⟨hW.cell ((Kept.refl (fun _ => False) w).alloc _ |>.cell HM.out (fun f => f)) (fun f => f), (hW.block _ (by simp) (fun f => f)).trans (alloc_new _ _ rfl), HL2.out W (((Kept.refl (fun _ => False) w).alloc _).trans hW)⟩
  have HKA : Hid (Kept (fun _ => False) w (w.alloc (.cells ds 29))) := (Kept.refl _ w).alloc _
  have cU := HKA.out.cell HU.out (fun f => f)
  have w1 : IntKind.i64.wrap (σ.us + ((xs.length : Int) + 32)) = σ.us + ((xs.length : Int) + 32) := by rw [IntKind.wrap_i64]; omega
  go_enter Tryz.func51, Tryz.ntmps51
  go_wp2
  generalize w.alloc (.cells ds 29) = wA at *
  refine wp_region_held_drew (S := fun w' => w'.cell? ⟨s, 3, none⟩ = some (.int .i64 σ.us)) (by kernel_rfl) cU (fun hHeld => ?_)
  iterate 5
   refine tkn (v := ?_) 0 rfl ?_ ?_; rotate_left 1
   ·intro w hSw; go_simp; try with_reducible rfl
   try simp only [Act.put, tdy]
  refine wpAnyH_ready (rs := [5]) (by kernel_rfl) (by simp) ?_
  refine AllReadyH.cons rfl (fun K hK => ?_) .nil
  go_simp
  refine (cost_any _ _ _ _ (by omega)).mono ?_
  rintro e w' ⟨rfl, rfl⟩
  refine hK.out _ _ cU (fun hHeld => ?_)
  clear hK K
  try simp only [Act.put, tdy]
  iterate 2
   refine tkn (v := ?_) 6 rfl ?_ ?_; rotate_left 1
   ·intro w hSw; go_simp; try with_reducible rfl
   try simp only [Act.put, tdy]
  refine wpAnyH_done (by kernel_rfl) ?_ _
  go_wp2
  have HSB : Hid (∀ W, Kept (fun _ => False) wA.drew W → W.cell? ⟨s, 2, none⟩ = some mv ∧ W.heap[w.heap.size]? = some (.cells ds 29 (0, 0)) ∧ (Instr.lookup 63 mv (.agg ds) true).run Tryz.prog W = .ok (.tuple #[.agg #[.slice ao n c, .int .i64 st], .bool false]) W) := fun W hW => HS.out W ((Kept.refl _ wA).drew.trans hW)
  have HKB : Hid (Kept (fun _ => False) w wA.drew) := HKA.out.drew
  clear HS HKA cU
  generalize wA.drew = wB at *
  have HS := HSB
  clear HSB
  refine wp_region_held_drew (S := fun w' => w'.cell? ⟨s, 2, none⟩ = some mv ∧ w'.heap[w.heap.size]? = some (.cells ds 29 (0, 0)) ∧ (Instr.lookup 63 mv (.agg ds) true).run Tryz.prog w' = .ok (.tuple #[.agg #[.slice ao n c, .int .i64 st], .bool false]) w') (by kernel_rfl) (HS.out _ ((Kept.refl _ wB).drew)) (fun hHeld => ?_)
  iterate 4
   refine tkn (v := ?_) 0 rfl ?_ ?_; rotate_left 1
   ·intro w hSw; obtain ⟨s1, s2, s3⟩ := hSw; go_simp; try with_reducible rfl
   try simp only [Act.put, tdy]
  refine tkg 4 (.agg ds) rfl (yields_row (by rfl) 29 _ rfl w.heap.size rfl 29 ds (0, 0) _ (fun w hSw => hSw.2.1) Tryz.underlying29 rfl hds) ?_
  try simp only [Act.put, tdy]
  iterate 4
   refine tkn (v := ?_) 5 rfl ?_ ?_; rotate_left 1
   ·intro w hSw; obtain ⟨s1, s2, s3⟩ := hSw; go_simp; try with_reducible rfl
   try simp only [Act.put, tdy]
  refine wpAnyH_ready (rs := [9]) (by kernel_rfl) (by simp) ?_
  refine AllReadyH.cons rfl (fun K hK => ?_) .nil
  go_simp
  refine hK.out _ _ (HS.out _ (((Kept.refl _ wB).alloc _).drew)) (fun hHeld => ?_)
  clear hK K
  try simp only [Act.put, tdy]
  refine wpAnyH_ready (rs := [10]) (by kernel_rfl) (by simp) ?_
  refine AllReadyH.cons rfl (fun K hK => ?_) .nil
  go_simp
  refine hK.out _ _ (HS.out _ (((Kept.refl _ wB).alloc _).drew)) (fun hHeld => ?_)
  clear hK K
  try simp only [Act.put, tdy]
  refine tkp (v := ?_) 11 rfl ?_ ?_; rotate_left 1
  ·intro w hSw; obtain ⟨s1, s2, s3⟩ := hSw; go_simp; try with_reducible rfl
  try simp only [Act.put, tdy]
  refine wpAnyH_done (by kernel_rfl) ?_ _
  have HKC : Hid (Kept (fun _ => False) w (wB.alloc (.cells #[.slice ao n c, .int .i64 st] 87)).drew) := (HKB.out.alloc _).drew
  have HC5 : Hid ((wB.alloc (.cells #[.slice ao n c, .int .i64 st] 87)).drew.cell? ⟨wB.heap.size, 0, none⟩ = some (.slice ao n c)) := (cell_block _ _ _ _ _ _ (alloc_new wB _ rfl)).trans rfl
  have HD3 : Hid ((wB.alloc (.cells #[.slice ao n c, .int .i64 st] 87)).drew.heap[w.heap.size]? = some (.cells ds 29 (0, 0))) := alloc_old (HS.out wB (Kept.refl _ _)).2.1
  generalize hb5 : wB.heap.size = b5 at *
  generalize (wB.alloc (.cells #[.slice ao n c, .int .i64 st] 87)).drew = wC at *
  clear HS HKB hb5 HL2
  have cC := HKC.out.cell HCP.out (fun f => f)
  have c5 := HC5.out
  go_wp2
  go_ret
  exact ⟨rfl, HKC.out⟩
 | some e =>
  rw [hl] at HL2 HN hov
  have hne : n = e.xs.length := HN.out
  have hel := HE.out e hl
  have hov2 : σ.cp < σ.us + ((xs.length : Int) + 32) - ((e.xs.length : Int) + 32) := hov
  rw [← hne] at hov2 hel
  have w2 : IntKind.i64.wrap (σ.us + ((xs.length : Int) + 32) - ((n : Int) + 32)) = σ.us + ((xs.length : Int) + 32) - ((n : Int) + 32) := by rw [IntKind.wrap_i64]; omega
  clear hov HE hl HN hne
  have HS : Hid (∀ W, Kept (fun _ => False) (w.alloc (.cells ds 29)) W → W.cell? ⟨s, 2, none⟩ = some mv ∧ W.heap[w.heap.size]? = some (.cells ds 29 (0, 0)) ∧ (Instr.lookup 63 mv (.agg ds) true).run Tryz.prog W = .ok (.tuple #[.agg #[.slice ao n c, .int .i64 st], .bool true]) W) := fun W hW =>
   ⟨hW.cell ((Kept.refl (fun _ => False) w).alloc _ |>.cell HM.out (fun f => f)) (fun f => f), (hW.block _ (by simp) (fun f => f)).trans (alloc_new _ _ rfl), HL2.out W (((Kept.refl (fun _ => False) w).alloc _).trans hW)⟩
  have HKA : Hid (Kept (fun _ => False) w (w.alloc (.cells ds 29))) := (Kept.refl _ w).alloc _
  have cU := HKA.out.cell HU.out (fun f => f)
  have w1 : IntKind.i64.wrap (σ.us + ((xs.length : Int) + 32)) = σ.us + ((xs.length : Int) + 32) := by rw [IntKind.wrap_i64]; omega
  go_enter Tryz.func51, Tryz.ntmps51
  go_wp2
  generalize w.alloc (.cells ds 29) = wA at *
  refine wp_region_held_drew (S := fun w' => w'.cell? ⟨s, 3, none⟩ = some (.int .i64 σ.us)) (by kernel_rfl) cU (fun hHeld => ?_)
  iterate 5
   refine tkn (v := ?_) 0 rfl ?_ ?_; rotate_left 1
   ·intro w hSw; go_simp; try with_reducible rfl
   try simp only [Act.put, tdy]
  refine wpAnyH_ready (rs := [5]) (by kernel_rfl) (by simp) ?_
  refine AllReadyH.cons rfl (fun K hK => ?_) .nil
  go_simp
  refine (cost_any _ _ _ _ (by omega)).mono ?_
  rintro e w' ⟨rfl, rfl⟩
  refine hK.out _ _ cU (fun hHeld => ?_)
  clear hK K
  try simp only [Act.put, tdy]
  iterate 2
   refine tkn (v := ?_) 6 rfl ?_ ?_; rotate_left 1
   ·intro w hSw; go_simp; try with_reducible rfl
   try simp only [Act.put, tdy]
  refine wpAnyH_done (by kernel_rfl) ?_ _
  go_wp2
  have HSB : Hid (∀ W, Kept (fun _ => False) wA.drew W → W.cell? ⟨s, 2, none⟩ = some mv ∧ W.heap[w.heap.size]? = some (.cells ds 29 (0, 0)) ∧ (Instr.lookup 63 mv (.agg ds) true).run Tryz.prog W = .ok (.tuple #[.agg #[.slice ao n c, .int .i64 st], .bool true]) W) := fun W hW => HS.out W ((Kept.refl _ wA).drew.trans hW)
  have HKB : Hid (Kept (fun _ => False) w wA.drew) := HKA.out.drew
  clear HS HKA cU
  generalize wA.drew = wB at *
  have HS := HSB
  clear HSB
  refine wp_region_held_drew (S := fun w' => w'.cell? ⟨s, 2, none⟩ = some mv ∧ w'.heap[w.heap.size]? = some (.cells ds 29 (0, 0)) ∧ (Instr.lookup 63 mv (.agg ds) true).run Tryz.prog w' = .ok (.tuple #[.agg #[.slice ao n c, .int .i64 st], .bool true]) w') (by kernel_rfl) (HS.out _ ((Kept.refl _ wB).drew)) (fun hHeld => ?_)
  iterate 4
   refine tkn (v := ?_) 0 rfl ?_ ?_; rotate_left 1
   ·intro w hSw; obtain ⟨s1, s2, s3⟩ := hSw; go_simp; try with_reducible rfl
   try simp only [Act.put, tdy]
  refine tkg 4 (.agg ds) rfl (yields_row (by rfl) 29 _ rfl w.heap.size rfl 29 ds (0, 0) _ (fun w hSw => hSw.2.1) Tryz.underlying29 rfl hds) ?_
  try simp only [Act.put, tdy]
  iterate 4
   refine tkn (v := ?_) 5 rfl ?_ ?_; rotate_left 1
   ·intro w hSw; obtain ⟨s1, s2, s3⟩ := hSw; go_simp; try with_reducible rfl
   try simp only [Act.put, tdy]
  refine wpAnyH_ready (rs := [9]) (by kernel_rfl) (by simp) ?_
  refine AllReadyH.cons rfl (fun K hK => ?_) .nil
  go_simp
  refine hK.out _ _ (HS.out _ (((Kept.refl _ wB).alloc _).drew)) (fun hHeld => ?_)
  clear hK K
  try simp only [Act.put, tdy]
  refine wpAnyH_ready (rs := [10]) (by kernel_rfl) (by simp) ?_
  refine AllReadyH.cons rfl (fun K hK => ?_) .nil
  go_simp
  refine hK.out _ _ (HS.out _ (((Kept.refl _ wB).alloc _).drew)) (fun hHeld => ?_)
  clear hK K
  try simp only [Act.put, tdy]
  refine tkp (v := ?_) 11 rfl ?_ ?_; rotate_left 1
  ·intro w hSw; obtain ⟨s1, s2, s3⟩ := hSw; go_simp; try with_reducible rfl
  try simp only [Act.put, tdy]
  refine wpAnyH_done (by kernel_rfl) ?_ _
  have HKC : Hid (Kept (fun _ => False) w (wB.alloc (.cells #[.slice ao n c, .int .i64 st] 87)).drew) := (HKB.out.alloc _).drew
  have HC5 : Hid ((wB.alloc (.cells #[.slice ao n c, .int .i64 st] 87)).drew.cell? ⟨wB.heap.size, 0, none⟩ = some (.slice ao n c)) := (cell_block _ _ _ _ _ _ (alloc_new wB _ rfl)).trans rfl
  have HD3 : Hid ((wB.alloc (.cells #[.slice ao n c, .int .i64 st] 87)).drew.heap[w.heap.size]? = some (.cells ds 29 (0, 0))) := alloc_old (HS.out wB (Kept.refl _ _)).2.1
  generalize hb5 : wB.heap.size = b5 at *
  generalize (wB.alloc (.cells #[.slice ao n c, .int .i64 st] 87)).drew = wC at *
  clear HS HKB hb5 HL2
  have cC := HKC.out.cell HCP.out (fun f => f)
  have c5 := HC5.out
  go_wp2_with fail
  refine (cost_any ao n c _ (by omega)).mono ?_
  rintro e w' ⟨rfl, rfl⟩
  go_wp2
  go_ret
  exact ⟨rfl, HKC.out⟩
end Go.Proofs.YtjdbmjkidljhpaaGreatDoor
namespace Go.Proofs.YtjdbmjkidljhpaaGreatDoor
open Go.RowKit
set_option linter.unusedVariables false
set_option linter.unusedSimpArgs false
set_option maxRecDepth 100000
set_option maxHeartbeats 4000000 in
theorem lay_first {w : World} {s : Nat} {σ : Sg} (h : Stor w s (.map none) σ) (d : List Int) (hd : d.length = 32) (hdr : ∀ x ∈ d, 0 ≤ x ∧ x < 256) (bv : Value) (xs : List Int) (hx : BIn w bv xs) (hxr : ∀ x ∈ xs, 0 ≤ x ∧ x < 256) (hn : xs.length ≤ 1048576) (hu : 0 ≤ σ.us) (hu2 : σ.us ≤ 1099511627776) (hsp : 0 ≤ σ.sp) (hsp2 : σ.sp ≤ 1099511627776) (hov : usedOf σ d xs ≤ σ.cp) (hxs : xs ≠ [] → ∀ g, bv.ownBlock = some g → g ≠ s) :
  Calls Tryz.prog 51 #[.pointer (some ⟨s, 0, none⟩), dv d, bv] w fun e w' => e = .returned (.int .i64 0) ∧ ∃ mv' σ', LayOk w.heap.size σ σ' d xs ∧ Stor w' s mv' σ' ∧ Kept (Own s (.map none)) w w' ∧ (mv' = (.map none) ∨ ∃ r, mv' = .map (some r) ∧ w.heap.size ≤ r) := by
 obtain ⟨bo, bc, hbv, _, _⟩ := id hx
 subst hbv
 obtain ⟨ao, n, c, st, hV⟩ := h.shape d
 have hds := size28_of d hd
 have HL2 : Hid (∀ W, Kept (fun _ => False) w W → (Instr.lookup 63 (.map none) (.agg (d.map (Value.int .u8)).toArray) true).run Tryz.prog W = .ok (.tuple #[.agg #[.slice ao n c, .int .i64 st], .bool (look σ.es d).isSome]) W) := fun W hW => by
  have := h.lookw d hd true W hW
  rw [hV] at this
  exact this
 have HM : Hid (w.cell? ⟨s, 2, none⟩ = some (.map none)) := h.cell 2
 have HU : Hid (w.cell? ⟨s, 3, none⟩ = some (.int .i64 σ.us)) := h.cell 3
 have HCP : Hid (w.cell? ⟨s, 1, none⟩ = some (.int .i64 σ.cp)) := h.cell 1
 have HN : Hid (match look σ.es d with | some e => n = e.xs.length | none => n = 0 ∧ ao = none) := by
  show match look σ.es d with | some e => n = e.xs.length | none => n = 0 ∧ ao = none
  unfold lookV at hV
  cases hl : look σ.es d with
  | none =>
   rw [hl] at hV
   unfold noLaid at hV
   injection hV with hV
   have := congrArg (fun a => a[0]?) hV
   simp at this
   exact ⟨this.2.1.symm, this.1.symm⟩
  | some e =>
   rw [hl] at hV
   obtain ⟨eo, ec, he, _⟩ := (h.blob e (look_mem _ _ _ hl).1).1
   have hV2 : Value.agg #[e.bv, .int .i64 e.st] = .agg #[.slice ao n c, .int .i64 st] := hV
   rw [he] at hV2
   injection hV2 with hV2
   have := congrArg (fun a => a[0]?) hV2
   simp at this
   exact this.2.1.symm
 have HE : Hid (∀ e, look σ.es d = some e → e.xs.length ≤ 1048576) := fun e he => (h.blob e (look_mem _ _ _ he).1).2.2.1
 have HRL : Hid (∀ (W : World) (r clock : Nat) (es : List En), W.heap[r]? = some (.map (es.map En.ent).toArray clock) → (∀ e ∈ es, e.k.length = 32) → ∀ (v : Value) (st : Int), ∃ clock', Ticks clock clock' es d ∧ (Instr.mapUpdate 63 (.map (some r)) (.agg (d.map (Value.int .u8)).toArray) (.agg #[v, .int .i64 st])).run Tryz.prog W = .ok () (World.over W r (.map ((lays es ⟨d, v, xs, st, clock⟩).map En.ent).toArray clock'))) := fun W r clock es hb hes v st => run_lay W r clock es hb hes d hd v xs st
 have HST := hid_of h
 have HSP : Hid (w.cell? ⟨s, 4, none⟩ = some (.int .i64 σ.sp)) := h.cell 4
 have HX := hid_of hx
 have hsl := h.lt
 have HUO : Hid (usedOf σ d xs = σ.us + ((xs.length : Int) + 32) - (match look σ.es d with | some e => (e.xs.length : Int) + 32 | none => 0)) := rfl
 have HKY : Hid (d.length = 32 ∧ ∀ x ∈ d, 0 ≤ x ∧ x < 256) := ⟨hd, hdr⟩
 unfold dv
 clear h hV hx hdr
 generalize (d.map (Value.int .u8)).toArray = ds at *
 have hl : look σ.es d = none := by
  rcases HST.out.map with ⟨_, h1⟩ | ⟨r, c, h1, _⟩
  ·rw [h1]; rfl
  ·cases h1
 rw [hl] at HL2 HUO
 have hus : usedOf σ d xs = σ.us + ((xs.length : Int) + 32) := by have := HUO.out; simpa using this
 have hle : ¬ σ.cp < σ.us + ((xs.length : Int) + 32) := by omega
 clear HE hl HN HUO hov
 have HS : Hid (∀ W, Kept (fun _ => False) (w.alloc (.cells ds 29)) W → W.cell? ⟨s, 2, none⟩ = some (.map none) ∧ W.heap[w.heap.size]? = some (.cells ds 29 (0, 0)) ∧ (Instr.lookup 63 (.map none) (.agg ds) true).run Tryz.prog W = .ok (.tuple #[.agg #[.slice ao n c, .int .i64 st], .bool false]) W) := fun W hW =>
  ⟨hW.cell ((Kept.refl (fun _ => False) w).alloc _ |>.cell HM.out (fun f => f)) (fun f => f), (hW.block _ (by simp) (fun f => f)).trans (alloc_new _ _ rfl), HL2.out W (((Kept.refl (fun _ => False) w).alloc _).trans hW)⟩
 have HKA : Hid (Kept (fun _ => False) w (w.alloc (.cells ds 29))) := (Kept.refl _ w).alloc _
 have cU := HKA.out.cell HU.out (fun f => f)
 have w1 : IntKind.i64.wrap (σ.us + ((xs.length : Int) + 32)) = σ.us + ((xs.length : Int) + 32) := by rw [IntKind.wrap_i64]; omega
 go_enter Tryz.func51, Tryz.ntmps51
 go_wp2
 generalize w.alloc (.cells ds 29) = wA at *
 refine wp_region_held_drew (S := fun w' => w'.cell? ⟨s, 3, none⟩ = some (.int .i64 σ.us)) (by kernel_rfl) cU (fun hHeld => ?_)
 iterate 5
  refine tkn (v := ?_) 0 rfl ?_ ?_; rotate_left 1
  ·intro w hSw; go_simp; try with_reducible rfl
  try simp only [Act.put, tdy]
 refine wpAnyH_ready (rs := [5]) (by kernel_rfl) (by simp) ?_
 refine AllReadyH.cons rfl (fun K hK => ?_) .nil
 go_simp
 refine (cost_any _ _ _ _ (by omega)).mono ?_
 rintro e w' ⟨rfl, rfl⟩
 refine hK.out _ _ cU (fun hHeld => ?_)
 clear hK K
 try simp only [Act.put, tdy]
 iterate 2
  refine tkn (v := ?_) 6 rfl ?_ ?_; rotate_left 1
  ·intro w hSw; go_simp; try with_reducible rfl
  try simp only [Act.put, tdy]
 refine wpAnyH_done (by kernel_rfl) ?_ _
 go_wp2
 have HSB : Hid (∀ W, Kept (fun _ => False) wA.drew W → W.cell? ⟨s, 2, none⟩ = some (.map none) ∧ W.heap[w.heap.size]? = some (.cells ds 29 (0, 0)) ∧ (Instr.lookup 63 (.map none) (.agg ds) true).run Tryz.prog W = .ok (.tuple #[.agg #[.slice ao n c, .int .i64 st], .bool false]) W) := fun W hW => HS.out W ((Kept.refl _ wA).drew.trans hW)
 have HKB : Hid (Kept (fun _ => False) w wA.drew) := HKA.out.drew
 clear HS HKA cU
 generalize wA.drew = wB at *
 have HS := HSB
 clear HSB
 refine wp_region_held_drew (S := fun w' => w'.cell? ⟨s, 2, none⟩ = some (.map none) ∧ w'.heap[w.heap.size]? = some (.cells ds 29 (0, 0)) ∧ (Instr.lookup 63 (.map none) (.agg ds) true).run Tryz.prog w' = .ok (.tuple #[.agg #[.slice ao n c, .int .i64 st], .bool false]) w') (by kernel_rfl) (HS.out _ ((Kept.refl _ wB).drew)) (fun hHeld => ?_)
 iterate 4
  refine tkn (v := ?_) 0 rfl ?_ ?_; rotate_left 1
  ·intro w hSw; obtain ⟨s1, s2, s3⟩ := hSw; go_simp; try with_reducible rfl
  try simp only [Act.put, tdy]
 refine tkg 4 (.agg ds) rfl (yields_row (by rfl) 29 _ rfl w.heap.size rfl 29 ds (0, 0) _ (fun w hSw => hSw.2.1) Tryz.underlying29 rfl hds) ?_
 try simp only [Act.put, tdy]
 iterate 4
  refine tkn (v := ?_) 5 rfl ?_ ?_; rotate_left 1
  ·intro w hSw; obtain ⟨s1, s2, s3⟩ := hSw; go_simp; try with_reducible rfl
  try simp only [Act.put, tdy]
 refine wpAnyH_ready (rs := [9]) (by kernel_rfl) (by simp) ?_
 refine AllReadyH.cons rfl (fun K hK => ?_) .nil
 go_simp
 refine hK.out _ _ (HS.out _ (((Kept.refl _ wB).alloc _).drew)) (fun hHeld => ?_)
 clear hK K
 try simp only [Act.put, tdy]
 refine wpAnyH_ready (rs := [10]) (by kernel_rfl) (by simp) ?_
 refine AllReadyH.cons rfl (fun K hK => ?_) .nil
 go_simp
 refine hK.out _ _ (HS.out _ (((Kept.refl _ wB).alloc _).drew)) (fun hHeld => ?_)
 clear hK K
 try simp only [Act.put, tdy]
 refine tkp (v := ?_) 11 rfl ?_ ?_; rotate_left 1
 ·intro w hSw; obtain ⟨s1, s2, s3⟩ := hSw; go_simp; try with_reducible rfl
 try simp only [Act.put, tdy]
 refine wpAnyH_done (by kernel_rfl) ?_ _
 have HKC : Hid (Kept (fun _ => False) w (wB.alloc (.cells #[.slice ao n c, .int .i64 st] 87)).drew) := (HKB.out.alloc _).drew
 have HC5 : Hid ((wB.alloc (.cells #[.slice ao n c, .int .i64 st] 87)).drew.cell? ⟨wB.heap.size, 0, none⟩ = some (.slice ao n c)) := (cell_block _ _ _ _ _ _ (alloc_new wB _ rfl)).trans rfl
 have HD3 : Hid ((wB.alloc (.cells #[.slice ao n c, .int .i64 st] 87)).drew.heap[w.heap.size]? = some (.cells ds 29 (0, 0))) := alloc_old (HS.out wB (Kept.refl _ _)).2.1
 generalize hb5 : wB.heap.size = b5 at *
 generalize (wB.alloc (.cells #[.slice ao n c, .int .i64 st] 87)).drew = wC at *
 clear HS HKB hb5 HL2
 have cC := HKC.out.cell HCP.out (fun f => f)
 have c5 := HC5.out
 have HSC := hid_of (HST.out.kept HKC.out (fun _ _ f => f))
 have c2 : wC.cell? ⟨s, 2, none⟩ = some (.map none) := HSC.out.cell 2
 have f2 := HSC.out.fz 2
 have c4 : wC.cell? ⟨s, 4, none⟩ = some (.int .i64 σ.sp) := HSC.out.cell 4
 have f4 := HSC.out.fz 4
 have hslC := HSC.out.lt
 obtain ⟨HM1, HM2⟩ := HSC.out.newmap
 have HM3 := HM1.set (σ' := { σ with sp := σ.sp + 1 }) 4 (.int .i64 (σ.sp + 1)) rfl rfl
 have HSE0 := hid_of HM3.1
 have HKE0 : Hid (Kept (Own s (.map none)) w (((wC.setCell ⟨s, 2, none⟩ (.map (some wC.heap.size))).alloc (.map #[] 0)).setCell ⟨s, 4, none⟩ (.int .i64 (σ.sp + 1)))) := (HKC.out.mono (T := Own s (.map none)) (fun _ _ f => f.elim)).trans ((HM2.trans HM3.2).mono (fun _ _ f => .inl f))
 have HDE0 : Hid ((((wC.setCell ⟨s, 2, none⟩ (.map (some wC.heap.size))).alloc (.map #[] 0)).setCell ⟨s, 4, none⟩ (.int .i64 (σ.sp + 1))).heap[w.heap.size]? = some (.cells ds 29 (0, 0))) := ((HM2.trans HM3.2).block _ (heap_lt HD3.out) (by omega)).trans HD3.out
 have HXE0 : Hid (BIn (((wC.setCell ⟨s, 2, none⟩ (.map (some wC.heap.size))).alloc (.map #[] 0)).setCell ⟨s, 4, none⟩ (.int .i64 (σ.sp + 1))) (.slice bo xs.length bc) xs) := (HX.out.kept2 HKC.out (fun _ _ _ f => f)).kept2 (HM2.trans HM3.2) (fun hx0 g hg => hxs hx0 g hg)
 have hwsp : IntKind.i64.wrap (σ.sp + 1) = σ.sp + 1 := by rw [IntKind.wrap_i64]; omega
 have q0 := eqMap
 have q1 : ∀ W : World, (Instr.makeMap 63 none).run Tryz.prog W = .ok (.map (some W.heap.size)) (W.alloc (.map #[] 0)) := fun W => rfl
 have hCs := HKC.out.size
 clear HM1 HM2 HM3 HSC
 go_wp2
 have hEq : ((wC.setCell ⟨s, 2, none⟩ (.map (some wC.heap.size))).alloc (.map #[] 0)).setCell ⟨s, 4, none⟩ (.int .i64 (σ.sp + 1)) = ((wC.setCell ⟨s, 2, none⟩ (.map (some wC.heap.size))).setCell ⟨s, 4, none⟩ (.int .i64 (σ.sp + 1))).alloc (.map #[] 0) := World.setCell_alloc_past _ _ _ _ (by simpa [World.setCell] using hslC)
 rw [hEq] at HSE0 HKE0 HDE0 HXE0
 clear hEq q0 q1 c2 f2 c4 f4
 generalize ((wC.setCell ⟨s, 2, none⟩ (.map (some wC.heap.size))).setCell ⟨s, 4, none⟩ (.int .i64 (σ.sp + 1))).alloc (.map #[] 0) = wE at *
 have hrd : wC.heap.size ≠ w.heap.size := by have := heap_lt HD3.out; omega
 have HMV : Hid (Value.map (some wC.heap.size) = .map none ∨ ∃ r, Value.map (some wC.heap.size) = .map (some r) ∧ w.heap.size ≤ r) := .inr ⟨_, rfl, hCs⟩
 have hown : ∀ i, i < w.heap.size → i = wC.heap.size → Own s (.map none) i := fun i hi e => by omega
 generalize wC.heap.size = r at *
 have HSE := HSE0
 have HKE := HKE0
 have HDE := HDE0
 have HXE := HXE0
 clear HSE0 HKE0 HDE0 HXE0 cC c5 HC5 HD3 HKC
 have HSX : Hid (∀ W, Kept (fun _ => False) wE W → W.cell? ⟨s, 2, none⟩ = some (.map (some r)) ∧ W.heap[w.heap.size]? = some (.cells ds 29 (0, 0)) ∧ W.cell? ⟨s, 4, none⟩ = some (.int .i64 (σ.sp + 1))) := fun W hW => by
  have hh := HSE.out.kept hW (fun _ _ f => f)
  exact ⟨hh.cell 2, (hW.block _ (heap_lt HDE.out) (fun f => f)).trans HDE.out, hh.cell 4⟩
 refine wp_region_held_drew (S := fun w' => w'.cell? ⟨s, 2, none⟩ = some (.map (some r)) ∧ w'.heap[w.heap.size]? = some (.cells ds 29 (0, 0)) ∧ w'.cell? ⟨s, 4, none⟩ = some (.int .i64 (σ.sp + 1))) (by kernel_rfl) (HSX.out _ ((Kept.refl _ wE).drew)) (fun hHeld => ?_)
 iterate 4
  refine tkn (v := ?_) 0 rfl ?_ ?_; rotate_left 1
  ·intro w hSw; obtain ⟨s1, s2, s3⟩ := hSw; go_simp; try with_reducible rfl
  try simp only [Act.put, tdy]
 refine tkg 4 (.agg ds) rfl (yields_row (by rfl) 29 _ rfl w.heap.size rfl 29 ds (0, 0) _ (fun w hSw => hSw.2.1) Tryz.underlying29 rfl hds) ?_
 try simp only [Act.put, tdy]
 refine tkp (v := ?_) 5 rfl ?_ ?_; rotate_left 1
 ·intro w hSw; obtain ⟨s1, s2, s3⟩ := hSw; go_simp; try with_reducible rfl
 try simp only [Act.put, tdy]
 iterate 4
  refine tkn (v := ?_) 7 rfl ?_ ?_; rotate_left 1
  ·intro w hSw; obtain ⟨s1, s2, s3⟩ := hSw; go_simp; try with_reducible rfl
  try simp only [Act.put, tdy]
 refine wpAnyH_ready (rs := [6]) (by kernel_rfl) (by simp) ?_
 refine AllReadyH.cons rfl (fun K hK => ?_) .nil
 go_simp
 refine (clone_any (.slice bo xs.length bc) xs wE.drew (HXE.out.kept2 (Kept.refl (fun _ => False) wE).drew (fun _ _ _ f => f)) (by omega)).mono ?_
 rintro e w6 ⟨v', rfl, hv1, hv2, hk6⟩
 have hk6' : Kept (fun _ => False) wE w6 := (Kept.refl _ wE).drew.trans hk6
 obtain ⟨vo, vc, hvv, _, _⟩ := id hv1
 subst hvv
 have H6 := hid_of (HSE.out.kept hk6' (fun _ _ f => f))
 obtain ⟨clock, hb6, hrs⟩ : ∃ clock, w6.heap[r]? = some (.map (σ.es.map En.ent).toArray clock) ∧ (r ≠ s ∧ Stampd clock σ.es) := by
  rcases H6.out.map with ⟨hh, _⟩ | ⟨r', clock, hh, hb, hrs⟩
  ·cases hh
  ·cases hh
   exact ⟨clock, hb, hrs⟩
 obtain ⟨clock', hcl, hrun⟩ := HRL.out w6 r clock σ.es hb6 (fun e he => (H6.out.key e he).1) (.slice vo xs.length vc) (σ.sp + 1)
 have HE7 : Hid (Stor (World.over w6 r (.map ((lays σ.es ⟨d, .slice vo xs.length vc, xs, σ.sp + 1, clock⟩).map En.ent).toArray clock')) s (.map (some r)) { σ with sp := σ.sp + 1, es := lays σ.es ⟨d, .slice vo xs.length vc, xs, σ.sp + 1, clock⟩ }) :=
  Stor.entry (σ := { σ with sp := σ.sp + 1 }) (e := ⟨d, .slice vo xs.length vc, xs, σ.sp + 1, clock⟩) H6.out hb6 hrs HKY.out hv1 hxr hn (fun g hg => by have h7 := (hv2 g hg).1; have h8 := HSE.out.lt; have h9 : wE.drew.heap.size = wE.heap.size := rfl; omega) hcl rfl
 have HK7 : Hid (Kept (fun k => k = r) w6 (World.over w6 r (.map ((lays σ.es ⟨d, .slice vo xs.length vc, xs, σ.sp + 1, clock⟩).map En.ent).toArray clock'))) := kept_over _ _ _
 have HK6 := hid_of hk6'
 have HD6 := hid_of ((hk6'.block _ (heap_lt HDE.out) (fun f => f)).trans HDE.out)
 have HBB : Hid (∃ bv born, (∀ g, bv.ownBlock = some g → w.heap.size ≤ g) ∧ lays σ.es ⟨d, .slice vo xs.length vc, xs, σ.sp + 1, clock⟩ = lays σ.es ⟨d, bv, xs, σ.sp + 1, born⟩) := ⟨.slice vo xs.length vc, clock, fun g hg => by have h7 := (hv2 g hg).1; have h8 := HKE.out.size; have h9 : wE.drew.heap.size = wE.heap.size := rfl; omega, rfl⟩
 generalize lays σ.es ⟨d, .slice vo xs.length vc, xs, σ.sp + 1, clock⟩ = es2 at *
 generalize World.over w6 r (.map (es2.map En.ent).toArray clock') = w7 at *
 clear hv1 hv2 hk6 hk6' hb6 hcl hrs
 refine hK.out _ _ (HSX.out _ HK6.out) (fun hHeld => ?_)
 clear hK K
 try simp only [Act.put, tdy]
 refine tkp (v := ?_) 11 rfl ?_ ?_; rotate_left 1
 ·intro w hSw; obtain ⟨s1, s2, s3⟩ := hSw; go_simp; try with_reducible rfl
 try simp only [Act.put, tdy]
 refine wpAnyH_ready (rs := [12]) (by kernel_rfl) (by simp) ?_
 refine AllReadyH.cons rfl (fun K hK => ?_) .nil
 go_simp
 refine hK.out _ _ ⟨HE7.out.cell 2, (HK7.out.block _ (heap_lt HD6.out) (fun f => hrd f.symm)).trans HD6.out, HE7.out.cell 4⟩ (fun hHeld => ?_)
 clear hK K
 try simp only [Act.put, tdy]
 refine wpAnyH_done (by kernel_rfl) ?_ _
 have c3 : w7.cell? ⟨s, 3, none⟩ = some (.int .i64 σ.us) := HE7.out.cell 3
 have f3 := HE7.out.fz 3
 have HEND := hid_of (HE7.out.set (σ' := { σ with us := σ.us + ((xs.length : Int) + 32), sp := σ.sp + 1, es := es2 }) 3 (.int .i64 (σ.us + ((xs.length : Int) + 32))) rfl rfl)
 clear hrun HRL HSX
 go_wp2
 go_ret
 refine ⟨rfl, .map (some r), _, ?_, HEND.out.1, ?_, HMV.out⟩
 ·obtain ⟨bvv, born, hbg, hbb⟩ := HBB.out
  exact ⟨bvv, born, hbg, by rw [hus, hbb]⟩
 ·exact HKE.out.step (((HK6.out.mono (T := fun k => k = s ∨ k = r) (fun _ _ f => f.elim)).trans (HK7.out.mono (fun _ _ f => .inr f))).trans (HEND.out.2.mono (fun _ _ f => .inl f))) (fun i hi f => by rcases f with f | f; exact .inl f; exact hown i hi f)
end Go.Proofs.YtjdbmjkidljhpaaGreatDoor
namespace Go.Proofs.YtjdbmjkidljhpaaGreatDoor
open Go.RowKit
set_option linter.unusedVariables false
set_option linter.unusedSimpArgs false
set_option maxRecDepth 100000
set_option maxHeartbeats 4000000 in
theorem lay_more {w : World} {s : Nat} {r : Nat} {σ : Sg} (h : Stor w s (.map (some r)) σ) (d : List Int) (hd : d.length = 32) (hdr : ∀ x ∈ d, 0 ≤ x ∧ x < 256) (bv : Value) (xs : List Int) (hx : BIn w bv xs) (hxr : ∀ x ∈ xs, 0 ≤ x ∧ x < 256) (hn : xs.length ≤ 1048576) (hu : 0 ≤ σ.us) (hu2 : σ.us ≤ 1099511627776) (hsp : 0 ≤ σ.sp) (hsp2 : σ.sp ≤ 1099511627776) (hov : usedOf σ d xs ≤ σ.cp) (hxs : xs ≠ [] → ∀ g, bv.ownBlock = some g → g ≠ s) :
  Calls Tryz.prog 51 #[.pointer (some ⟨s, 0, none⟩), dv d, bv] w fun e w' => e = .returned (.int .i64 0) ∧ ∃ mv' σ', LayOk w.heap.size σ σ' d xs ∧ Stor w' s mv' σ' ∧ Kept (Own s (.map (some r))) w w' ∧ (mv' = (.map (some r)) ∨ ∃ r, mv' = .map (some r) ∧ w.heap.size ≤ r) := by
 obtain ⟨bo, bc, hbv, _, _⟩ := id hx
 subst hbv
 obtain ⟨ao, n, c, st, hV⟩ := h.shape d
 have hds := size28_of d hd
 have HL2 : Hid (∀ W, Kept (fun _ => False) w W → (Instr.lookup 63 (.map (some r)) (.agg (d.map (Value.int .u8)).toArray) true).run Tryz.prog W = .ok (.tuple #[.agg #[.slice ao n c, .int .i64 st], .bool (look σ.es d).isSome]) W) := fun W hW => by
  have := h.lookw d hd true W hW
  rw [hV] at this
  exact this
 have HM : Hid (w.cell? ⟨s, 2, none⟩ = some (.map (some r))) := h.cell 2
 have HU : Hid (w.cell? ⟨s, 3, none⟩ = some (.int .i64 σ.us)) := h.cell 3
 have HCP : Hid (w.cell? ⟨s, 1, none⟩ = some (.int .i64 σ.cp)) := h.cell 1
 have HN : Hid (match look σ.es d with | some e => n = e.xs.length | none => n = 0 ∧ ao = none) := by
  show match look σ.es d with | some e => n = e.xs.length | none => n = 0 ∧ ao = none
  unfold lookV at hV
  cases hl : look σ.es d with
  | none =>
   rw [hl] at hV
   unfold noLaid at hV
   injection hV with hV
   have := congrArg (fun a => a[0]?) hV
   simp at this
   exact ⟨this.2.1.symm, this.1.symm⟩
  | some e =>
   rw [hl] at hV
   obtain ⟨eo, ec, he, _⟩ := (h.blob e (look_mem _ _ _ hl).1).1
   have hV2 : Value.agg #[e.bv, .int .i64 e.st] = .agg #[.slice ao n c, .int .i64 st] := hV
   rw [he] at hV2
   injection hV2 with hV2
   have := congrArg (fun a => a[0]?) hV2
   simp at this
   exact this.2.1.symm
 have HE : Hid (∀ e, look σ.es d = some e → e.xs.length ≤ 1048576) := fun e he => (h.blob e (look_mem _ _ _ he).1).2.2.1
 have HRL : Hid (∀ (W : World) (r clock : Nat) (es : List En), W.heap[r]? = some (.map (es.map En.ent).toArray clock) → (∀ e ∈ es, e.k.length = 32) → ∀ (v : Value) (st : Int), ∃ clock', Ticks clock clock' es d ∧ (Instr.mapUpdate 63 (.map (some r)) (.agg (d.map (Value.int .u8)).toArray) (.agg #[v, .int .i64 st])).run Tryz.prog W = .ok () (World.over W r (.map ((lays es ⟨d, v, xs, st, clock⟩).map En.ent).toArray clock'))) := fun W r clock es hb hes v st => run_lay W r clock es hb hes d hd v xs st
 have HST := hid_of h
 have HSP : Hid (w.cell? ⟨s, 4, none⟩ = some (.int .i64 σ.sp)) := h.cell 4
 have HX := hid_of hx
 have hsl := h.lt
 have HUO : Hid (usedOf σ d xs = σ.us + ((xs.length : Int) + 32) - (match look σ.es d with | some e => (e.xs.length : Int) + 32 | none => 0)) := rfl
 have HKY : Hid (d.length = 32 ∧ ∀ x ∈ d, 0 ≤ x ∧ x < 256) := ⟨hd, hdr⟩
 unfold dv
 clear h hV hx hdr
 generalize (d.map (Value.int .u8)).toArray = ds at *
 have hrd : r ≠ w.heap.size := by
  rcases HST.out.map with ⟨h1, _⟩ | ⟨r', c, h1, h2, _⟩
  ·cases h1
  ·cases h1
   have := heap_lt h2
   omega
 cases hl : look σ.es d with
 | none =>
  rw [hl] at HL2 HUO
  have hus : usedOf σ d xs = σ.us + ((xs.length : Int) + 32) := by have := HUO.out; simpa using this
  have hle : ¬ σ.cp < σ.us + ((xs.length : Int) + 32) := by omega
  clear HE hl HN HUO hov
  have HS : Hid (∀ W, Kept (fun _ => False) (w.alloc (.cells ds 29)) W → W.cell? ⟨s, 2, none⟩ = some (.map (some r)) ∧ W.heap[w.heap.size]? = some (.cells ds 29 (0, 0)) ∧ (Instr.lookup 63 (.map (some r)) (.agg ds) true).run Tryz.prog W = .ok (.tuple #[.agg #[.slice ao n c, .int .i64 st], .bool false]) W) := fun W hW =>
   ⟨hW.cell ((Kept.refl (fun _ => False) w).alloc _ |>.cell HM.out (fun f => f)) (fun f => f), (hW.block _ (by simp) (fun f => f)).trans (alloc_new _ _ rfl), HL2.out W (((Kept.refl (fun _ => False) w).alloc _).trans hW)⟩
  have HKA : Hid (Kept (fun _ => False) w (w.alloc (.cells ds 29))) := (Kept.refl _ w).alloc _
  have cU := HKA.out.cell HU.out (fun f => f)
  have w1 : IntKind.i64.wrap (σ.us + ((xs.length : Int) + 32)) = σ.us + ((xs.length : Int) + 32) := by rw [IntKind.wrap_i64]; omega
  go_enter Tryz.func51, Tryz.ntmps51
  go_wp2
  generalize w.alloc (.cells ds 29) = wA at *
  refine wp_region_held_drew (S := fun w' => w'.cell? ⟨s, 3, none⟩ = some (.int .i64 σ.us)) (by kernel_rfl) cU (fun hHeld => ?_)
  iterate 5
   refine tkn (v := ?_) 0 rfl ?_ ?_; rotate_left 1
   ·intro w hSw; go_simp; try with_reducible rfl
   try simp only [Act.put, tdy]
  refine wpAnyH_ready (rs := [5]) (by kernel_rfl) (by simp) ?_
  refine AllReadyH.cons rfl (fun K hK => ?_) .nil
  go_simp
  refine (cost_any _ _ _ _ (by omega)).mono ?_
  rintro e w' ⟨rfl, rfl⟩
  refine hK.out _ _ cU (fun hHeld => ?_)
  clear hK K
  try simp only [Act.put, tdy]
  iterate 2
   refine tkn (v := ?_) 6 rfl ?_ ?_; rotate_left 1
   ·intro w hSw; go_simp; try with_reducible rfl
   try simp only [Act.put, tdy]
  refine wpAnyH_done (by kernel_rfl) ?_ _
  go_wp2
  have HSB : Hid (∀ W, Kept (fun _ => False) wA.drew W → W.cell? ⟨s, 2, none⟩ = some (.map (some r)) ∧ W.heap[w.heap.size]? = some (.cells ds 29 (0, 0)) ∧ (Instr.lookup 63 (.map (some r)) (.agg ds) true).run Tryz.prog W = .ok (.tuple #[.agg #[.slice ao n c, .int .i64 st], .bool false]) W) := fun W hW => HS.out W ((Kept.refl _ wA).drew.trans hW)
  have HKB : Hid (Kept (fun _ => False) w wA.drew) := HKA.out.drew
  clear HS HKA cU
  generalize wA.drew = wB at *
  have HS := HSB
  clear HSB
  refine wp_region_held_drew (S := fun w' => w'.cell? ⟨s, 2, none⟩ = some (.map (some r)) ∧ w'.heap[w.heap.size]? = some (.cells ds 29 (0, 0)) ∧ (Instr.lookup 63 (.map (some r)) (.agg ds) true).run Tryz.prog w' = .ok (.tuple #[.agg #[.slice ao n c, .int .i64 st], .bool false]) w') (by kernel_rfl) (HS.out _ ((Kept.refl _ wB).drew)) (fun hHeld => ?_)
  iterate 4
   refine tkn (v := ?_) 0 rfl ?_ ?_; rotate_left 1
   ·intro w hSw; obtain ⟨s1, s2, s3⟩ := hSw; go_simp; try with_reducible rfl
   try simp only [Act.put, tdy]
  refine tkg 4 (.agg ds) rfl (yields_row (by rfl) 29 _ rfl w.heap.size rfl 29 ds (0, 0) _ (fun w hSw => hSw.2.1) Tryz.underlying29 rfl hds) ?_
  try simp only [Act.put, tdy]
  iterate 4
   refine tkn (v := ?_) 5 rfl ?_ ?_; rotate_left 1
   ·intro w hSw; obtain ⟨s1, s2, s3⟩ := hSw; go_simp; try with_reducible rfl
   try simp only [Act.put, tdy]
  refine wpAnyH_ready (rs := [9]) (by kernel_rfl) (by simp) ?_
  refine AllReadyH.cons rfl (fun K hK => ?_) .nil
  go_simp
  refine hK.out _ _ (HS.out _ (((Kept.refl _ wB).alloc _).drew)) (fun hHeld => ?_)
  clear hK K
  try simp only [Act.put, tdy]
  refine wpAnyH_ready (rs := [10]) (by kernel_rfl) (by simp) ?_
  refine AllReadyH.cons rfl (fun K hK => ?_) .nil
  go_simp
  refine hK.out _ _ (HS.out _ (((Kept.refl _ wB).alloc _).drew)) (fun hHeld => ?_)
  clear hK K
  try simp only [Act.put, tdy]
  refine tkp (v := ?_) 11 rfl ?_ ?_; rotate_left 1
  ·intro w hSw; obtain ⟨s1, s2, s3⟩ := hSw; go_simp; try with_reducible rfl
  try simp only [Act.put, tdy]
  refine wpAnyH_done (by kernel_rfl) ?_ _
  have HKC : Hid (Kept (fun _ => False) w (wB.alloc (.cells #[.slice ao n c, .int .i64 st] 87)).drew) := (HKB.out.alloc _).drew
  have HC5 : Hid ((wB.alloc (.cells #[.slice ao n c, .int .i64 st] 87)).drew.cell? ⟨wB.heap.size, 0, none⟩ = some (.slice ao n c)) := (cell_block _ _ _ _ _ _ (alloc_new wB _ rfl)).trans rfl
  have HD3 : Hid ((wB.alloc (.cells #[.slice ao n c, .int .i64 st] 87)).drew.heap[w.heap.size]? = some (.cells ds 29 (0, 0))) := alloc_old (HS.out wB (Kept.refl _ _)).2.1
  generalize hb5 : wB.heap.size = b5 at *
  generalize (wB.alloc (.cells #[.slice ao n c, .int .i64 st] 87)).drew = wC at *
  clear HS HKB hb5 HL2
  have cC := HKC.out.cell HCP.out (fun f => f)
  have c5 := HC5.out
  have HSC := hid_of (HST.out.kept HKC.out (fun _ _ f => f))
  have c2 : wC.cell? ⟨s, 2, none⟩ = some (.map (some r)) := HSC.out.cell 2
  have c4 : wC.cell? ⟨s, 4, none⟩ = some (.int .i64 σ.sp) := HSC.out.cell 4
  have f4 := HSC.out.fz 4
  have HM3 := HSC.out.set (σ' := { σ with sp := σ.sp + 1 }) 4 (.int .i64 (σ.sp + 1)) rfl rfl
  have HSE := hid_of HM3.1
  have HKE : Hid (Kept (Own s (.map (some r))) w (wC.setCell ⟨s, 4, none⟩ (.int .i64 (σ.sp + 1)))) := (HKC.out.mono (T := Own s (.map (some r))) (fun _ _ f => f.elim)).trans (HM3.2.mono (fun _ _ f => .inl f))
  have HDE : Hid ((wC.setCell ⟨s, 4, none⟩ (.int .i64 (σ.sp + 1))).heap[w.heap.size]? = some (.cells ds 29 (0, 0))) := (HM3.2.block _ (heap_lt HD3.out) (by omega)).trans HD3.out
  have HXE : Hid (BIn (wC.setCell ⟨s, 4, none⟩ (.int .i64 (σ.sp + 1))) (.slice bo xs.length bc) xs) := (HX.out.kept2 HKC.out (fun _ _ _ f => f)).kept2 HM3.2 (fun hx0 g hg => hxs hx0 g hg)
  have hwsp : IntKind.i64.wrap (σ.sp + 1) = σ.sp + 1 := by rw [IntKind.wrap_i64]; omega
  have q0 := eqMap
  clear HM3 HSC
  go_wp2
  clear q0 c2 c4 f4
  generalize wC.setCell ⟨s, 4, none⟩ (.int .i64 (σ.sp + 1)) = wE at *
  have hown : ∀ i, i < w.heap.size → i = r → Own s (.map (some r)) i := fun i hi e => .inr (by rw [e])
  clear cC c5 HC5 HD3 HKC
  have HSX : Hid (∀ W, Kept (fun _ => False) wE W → W.cell? ⟨s, 2, none⟩ = some (.map (some r)) ∧ W.heap[w.heap.size]? = some (.cells ds 29 (0, 0)) ∧ W.cell? ⟨s, 4, none⟩ = some (.int .i64 (σ.sp + 1))) := fun W hW => by
   have hh := HSE.out.kept hW (fun _ _ f => f)
   exact ⟨hh.cell 2, (hW.block _ (heap_lt HDE.out) (fun f => f)).trans HDE.out, hh.cell 4⟩
  refine wp_region_held_drew (S := fun w' => w'.cell? ⟨s, 2, none⟩ = some (.map (some r)) ∧ w'.heap[w.heap.size]? = some (.cells ds 29 (0, 0)) ∧ w'.cell? ⟨s, 4, none⟩ = some (.int .i64 (σ.sp + 1))) (by kernel_rfl) (HSX.out _ ((Kept.refl _ wE).drew)) (fun hHeld => ?_)
  iterate 4
   refine tkn (v := ?_) 0 rfl ?_ ?_; rotate_left 1
   ·intro w hSw; obtain ⟨s1, s2, s3⟩ := hSw; go_simp; try with_reducible rfl
   try simp only [Act.put, tdy]
  refine tkg 4 (.agg ds) rfl (yields_row (by rfl) 29 _ rfl w.heap.size rfl 29 ds (0, 0) _ (fun w hSw => hSw.2.1) Tryz.underlying29 rfl hds) ?_
  try simp only [Act.put, tdy]
  refine tkp (v := ?_) 5 rfl ?_ ?_; rotate_left 1
  ·intro w hSw; obtain ⟨s1, s2, s3⟩ := hSw; go_simp; try with_reducible rfl
  try simp only [Act.put, tdy]
  iterate 4
   refine tkn (v := ?_) 7 rfl ?_ ?_; rotate_left 1
   ·intro w hSw; obtain ⟨s1, s2, s3⟩ := hSw; go_simp; try with_reducible rfl
   try simp only [Act.put, tdy]
  refine wpAnyH_ready (rs := [6]) (by kernel_rfl) (by simp) ?_
  refine AllReadyH.cons rfl (fun K hK => ?_) .nil
  go_simp
  refine (clone_any (.slice bo xs.length bc) xs wE.drew (HXE.out.kept2 (Kept.refl (fun _ => False) wE).drew (fun _ _ _ f => f)) (by omega)).mono ?_
  rintro e w6 ⟨v', rfl, hv1, hv2, hk6⟩
  have hk6' : Kept (fun _ => False) wE w6 := (Kept.refl _ wE).drew.trans hk6
  obtain ⟨vo, vc, hvv, _, _⟩ := id hv1
  subst hvv
  have H6 := hid_of (HSE.out.kept hk6' (fun _ _ f => f))
  obtain ⟨clock, hb6, hrs⟩ : ∃ clock, w6.heap[r]? = some (.map (σ.es.map En.ent).toArray clock) ∧ (r ≠ s ∧ Stampd clock σ.es) := by
   rcases H6.out.map with ⟨hh, _⟩ | ⟨r', clock, hh, hb, hrs⟩
   ·cases hh
   ·cases hh
    exact ⟨clock, hb, hrs⟩
  obtain ⟨clock', hcl, hrun⟩ := HRL.out w6 r clock σ.es hb6 (fun e he => (H6.out.key e he).1) (.slice vo xs.length vc) (σ.sp + 1)
  have HE7 : Hid (Stor (World.over w6 r (.map ((lays σ.es ⟨d, .slice vo xs.length vc, xs, σ.sp + 1, clock⟩).map En.ent).toArray clock')) s (.map (some r)) { σ with sp := σ.sp + 1, es := lays σ.es ⟨d, .slice vo xs.length vc, xs, σ.sp + 1, clock⟩ }) :=
   Stor.entry (σ := { σ with sp := σ.sp + 1 }) (e := ⟨d, .slice vo xs.length vc, xs, σ.sp + 1, clock⟩) H6.out hb6 hrs HKY.out hv1 hxr hn (fun g hg => by have h7 := (hv2 g hg).1; have h8 := HSE.out.lt; have h9 : wE.drew.heap.size = wE.heap.size := rfl; omega) hcl rfl
  have HK7 : Hid (Kept (fun k => k = r) w6 (World.over w6 r (.map ((lays σ.es ⟨d, .slice vo xs.length vc, xs, σ.sp + 1, clock⟩).map En.ent).toArray clock'))) := kept_over _ _ _
  have HK6 := hid_of hk6'
  have HD6 := hid_of ((hk6'.block _ (heap_lt HDE.out) (fun f => f)).trans HDE.out)
  have HBB : Hid (∃ bv born, (∀ g, bv.ownBlock = some g → w.heap.size ≤ g) ∧ lays σ.es ⟨d, .slice vo xs.length vc, xs, σ.sp + 1, clock⟩ = lays σ.es ⟨d, bv, xs, σ.sp + 1, born⟩) := ⟨.slice vo xs.length vc, clock, fun g hg => by have h7 := (hv2 g hg).1; have h8 := HKE.out.size; have h9 : wE.drew.heap.size = wE.heap.size := rfl; omega, rfl⟩
  generalize lays σ.es ⟨d, .slice vo xs.length vc, xs, σ.sp + 1, clock⟩ = es2 at *
  generalize World.over w6 r (.map (es2.map En.ent).toArray clock') = w7 at *
  clear hv1 hv2 hk6 hk6' hb6 hcl hrs
  refine hK.out _ _ (HSX.out _ HK6.out) (fun hHeld => ?_)
  clear hK K
  try simp only [Act.put, tdy]
  refine tkp (v := ?_) 11 rfl ?_ ?_; rotate_left 1
  ·intro w hSw; obtain ⟨s1, s2, s3⟩ := hSw; go_simp; try with_reducible rfl
  try simp only [Act.put, tdy]
  refine wpAnyH_ready (rs := [12]) (by kernel_rfl) (by simp) ?_
  refine AllReadyH.cons rfl (fun K hK => ?_) .nil
  go_simp
  refine hK.out _ _ ⟨HE7.out.cell 2, (HK7.out.block _ (heap_lt HD6.out) (fun f => hrd f.symm)).trans HD6.out, HE7.out.cell 4⟩ (fun hHeld => ?_)
  clear hK K
  try simp only [Act.put, tdy]
  refine wpAnyH_done (by kernel_rfl) ?_ _
  have c3 : w7.cell? ⟨s, 3, none⟩ = some (.int .i64 σ.us) := HE7.out.cell 3
  have f3 := HE7.out.fz 3
  have HEND := hid_of (HE7.out.set (σ' := { σ with us := σ.us + ((xs.length : Int) + 32), sp := σ.sp + 1, es := es2 }) 3 (.int .i64 (σ.us + ((xs.length : Int) + 32))) rfl rfl)
  clear hrun HRL HSX
  go_wp2
  go_ret
  refine ⟨rfl, .map (some r), _, ?_, HEND.out.1, ?_, (.inl rfl)⟩
  ·obtain ⟨bvv, born, hbg, hbb⟩ := HBB.out
   exact ⟨bvv, born, hbg, by rw [hus, hbb]⟩
  ·exact HKE.out.step (((HK6.out.mono (T := fun k => k = s ∨ k = r) (fun _ _ f => f.elim)).trans (HK7.out.mono (fun _ _ f => .inr f))).trans (HEND.out.2.mono (fun _ _ f => .inl f))) (fun i hi f => by rcases f with f | f; exact .inl f; exact hown i hi f)
 | some e =>
  rw [hl] at HL2 HN HUO
  have hne : n = e.xs.length := HN.out
  have hel := HE.out e hl
  have hus : usedOf σ d xs = σ.us + ((xs.length : Int) + 32) - ((e.xs.length : Int) + 32) := HUO.out
  rw [← hne] at hus hel
  have hle : ¬ σ.cp < σ.us + ((xs.length : Int) + 32) - ((n : Int) + 32) := by omega
  have w2 : IntKind.i64.wrap (σ.us + ((xs.length : Int) + 32) - ((n : Int) + 32)) = σ.us + ((xs.length : Int) + 32) - ((n : Int) + 32) := by rw [IntKind.wrap_i64]; omega
  clear hov HE hl HN hne HUO
  have HS : Hid (∀ W, Kept (fun _ => False) (w.alloc (.cells ds 29)) W → W.cell? ⟨s, 2, none⟩ = some (.map (some r)) ∧ W.heap[w.heap.size]? = some (.cells ds 29 (0, 0)) ∧ (Instr.lookup 63 (.map (some r)) (.agg ds) true).run Tryz.prog W = .ok (.tuple #[.agg #[.slice ao n c, .int .i64 st], .bool true]) W) := fun W hW =>
   ⟨hW.cell ((Kept.refl (fun _ => False) w).alloc _ |>.cell HM.out (fun f => f)) (fun f => f), (hW.block _ (by simp) (fun f => f)).trans (alloc_new _ _ rfl), HL2.out W (((Kept.refl (fun _ => False) w).alloc _).trans hW)⟩
  have HKA : Hid (Kept (fun _ => False) w (w.alloc (.cells ds 29))) := (Kept.refl _ w).alloc _
  have cU := HKA.out.cell HU.out (fun f => f)
  have w1 : IntKind.i64.wrap (σ.us + ((xs.length : Int) + 32)) = σ.us + ((xs.length : Int) + 32) := by rw [IntKind.wrap_i64]; omega
  go_enter Tryz.func51, Tryz.ntmps51
  go_wp2
  generalize w.alloc (.cells ds 29) = wA at *
  refine wp_region_held_drew (S := fun w' => w'.cell? ⟨s, 3, none⟩ = some (.int .i64 σ.us)) (by kernel_rfl) cU (fun hHeld => ?_)
  iterate 5
   refine tkn (v := ?_) 0 rfl ?_ ?_; rotate_left 1
   ·intro w hSw; go_simp; try with_reducible rfl
   try simp only [Act.put, tdy]
  refine wpAnyH_ready (rs := [5]) (by kernel_rfl) (by simp) ?_
  refine AllReadyH.cons rfl (fun K hK => ?_) .nil
  go_simp
  refine (cost_any _ _ _ _ (by omega)).mono ?_
  rintro e w' ⟨rfl, rfl⟩
  refine hK.out _ _ cU (fun hHeld => ?_)
  clear hK K
  try simp only [Act.put, tdy]
  iterate 2
   refine tkn (v := ?_) 6 rfl ?_ ?_; rotate_left 1
   ·intro w hSw; go_simp; try with_reducible rfl
   try simp only [Act.put, tdy]
  refine wpAnyH_done (by kernel_rfl) ?_ _
  go_wp2
  have HSB : Hid (∀ W, Kept (fun _ => False) wA.drew W → W.cell? ⟨s, 2, none⟩ = some (.map (some r)) ∧ W.heap[w.heap.size]? = some (.cells ds 29 (0, 0)) ∧ (Instr.lookup 63 (.map (some r)) (.agg ds) true).run Tryz.prog W = .ok (.tuple #[.agg #[.slice ao n c, .int .i64 st], .bool true]) W) := fun W hW => HS.out W ((Kept.refl _ wA).drew.trans hW)
  have HKB : Hid (Kept (fun _ => False) w wA.drew) := HKA.out.drew
  clear HS HKA cU
  generalize wA.drew = wB at *
  have HS := HSB
  clear HSB
  refine wp_region_held_drew (S := fun w' => w'.cell? ⟨s, 2, none⟩ = some (.map (some r)) ∧ w'.heap[w.heap.size]? = some (.cells ds 29 (0, 0)) ∧ (Instr.lookup 63 (.map (some r)) (.agg ds) true).run Tryz.prog w' = .ok (.tuple #[.agg #[.slice ao n c, .int .i64 st], .bool true]) w') (by kernel_rfl) (HS.out _ ((Kept.refl _ wB).drew)) (fun hHeld => ?_)
  iterate 4
   refine tkn (v := ?_) 0 rfl ?_ ?_; rotate_left 1
   ·intro w hSw; obtain ⟨s1, s2, s3⟩ := hSw; go_simp; try with_reducible rfl
   try simp only [Act.put, tdy]
  refine tkg 4 (.agg ds) rfl (yields_row (by rfl) 29 _ rfl w.heap.size rfl 29 ds (0, 0) _ (fun w hSw => hSw.2.1) Tryz.underlying29 rfl hds) ?_
  try simp only [Act.put, tdy]
  iterate 4
   refine tkn (v := ?_) 5 rfl ?_ ?_; rotate_left 1
   ·intro w hSw; obtain ⟨s1, s2, s3⟩ := hSw; go_simp; try with_reducible rfl
   try simp only [Act.put, tdy]
  refine wpAnyH_ready (rs := [9]) (by kernel_rfl) (by simp) ?_
  refine AllReadyH.cons rfl (fun K hK => ?_) .nil
  go_simp
  refine hK.out _ _ (HS.out _ (((Kept.refl _ wB).alloc _).drew)) (fun hHeld => ?_)
  clear hK K
  try simp only [Act.put, tdy]
  refine wpAnyH_ready (rs := [10]) (by kernel_rfl) (by simp) ?_
  refine AllReadyH.cons rfl (fun K hK => ?_) .nil
  go_simp
  refine hK.out _ _ (HS.out _ (((Kept.refl _ wB).alloc _).drew)) (fun hHeld => ?_)
  clear hK K
  try simp only [Act.put, tdy]
  refine tkp (v := ?_) 11 rfl ?_ ?_; rotate_left 1
  ·intro w hSw; obtain ⟨s1, s2, s3⟩ := hSw; go_simp; try with_reducible rfl
  try simp only [Act.put, tdy]
  refine wpAnyH_done (by kernel_rfl) ?_ _
  have HKC : Hid (Kept (fun _ => False) w (wB.alloc (.cells #[.slice ao n c, .int .i64 st] 87)).drew) := (HKB.out.alloc _).drew
  have HC5 : Hid ((wB.alloc (.cells #[.slice ao n c, .int .i64 st] 87)).drew.cell? ⟨wB.heap.size, 0, none⟩ = some (.slice ao n c)) := (cell_block _ _ _ _ _ _ (alloc_new wB _ rfl)).trans rfl
  have HD3 : Hid ((wB.alloc (.cells #[.slice ao n c, .int .i64 st] 87)).drew.heap[w.heap.size]? = some (.cells ds 29 (0, 0))) := alloc_old (HS.out wB (Kept.refl _ _)).2.1
  generalize hb5 : wB.heap.size = b5 at *
  generalize (wB.alloc (.cells #[.slice ao n c, .int .i64 st] 87)).drew = wC at *
  clear HS HKB hb5 HL2
  have cC := HKC.out.cell HCP.out (fun f => f)
  have c5 := HC5.out
  go_wp2_with fail
  refine (cost_any ao n c _ (by omega)).mono ?_
  rintro e wD ⟨rfl, hwD⟩
  have hwE := hwD.symm
  clear hwD
  subst hwE
  have HSC := hid_of (HST.out.kept HKC.out (fun _ _ f => f))
  have c2 : wC.cell? ⟨s, 2, none⟩ = some (.map (some r)) := HSC.out.cell 2
  have c4 : wC.cell? ⟨s, 4, none⟩ = some (.int .i64 σ.sp) := HSC.out.cell 4
  have f4 := HSC.out.fz 4
  have HM3 := HSC.out.set (σ' := { σ with sp := σ.sp + 1 }) 4 (.int .i64 (σ.sp + 1)) rfl rfl
  have HSE := hid_of HM3.1
  have HKE : Hid (Kept (Own s (.map (some r))) w (wC.setCell ⟨s, 4, none⟩ (.int .i64 (σ.sp + 1)))) := (HKC.out.mono (T := Own s (.map (some r))) (fun _ _ f => f.elim)).trans (HM3.2.mono (fun _ _ f => .inl f))
  have HDE : Hid ((wC.setCell ⟨s, 4, none⟩ (.int .i64 (σ.sp + 1))).heap[w.heap.size]? = some (.cells ds 29 (0, 0))) := (HM3.2.block _ (heap_lt HD3.out) (by omega)).trans HD3.out
  have HXE : Hid (BIn (wC.setCell ⟨s, 4, none⟩ (.int .i64 (σ.sp + 1))) (.slice bo xs.length bc) xs) := (HX.out.kept2 HKC.out (fun _ _ _ f => f)).kept2 HM3.2 (fun hx0 g hg => hxs hx0 g hg)
  have hwsp : IntKind.i64.wrap (σ.sp + 1) = σ.sp + 1 := by rw [IntKind.wrap_i64]; omega
  have q0 := eqMap
  clear HM3 HSC
  go_wp2
  clear q0 c2 c4 f4
  generalize wC.setCell ⟨s, 4, none⟩ (.int .i64 (σ.sp + 1)) = wE at *
  have hown : ∀ i, i < w.heap.size → i = r → Own s (.map (some r)) i := fun i hi e => .inr (by rw [e])
  clear cC c5 HC5 HD3 HKC
  have HSX : Hid (∀ W, Kept (fun _ => False) wE W → W.cell? ⟨s, 2, none⟩ = some (.map (some r)) ∧ W.heap[w.heap.size]? = some (.cells ds 29 (0, 0)) ∧ W.cell? ⟨s, 4, none⟩ = some (.int .i64 (σ.sp + 1))) := fun W hW => by
   have hh := HSE.out.kept hW (fun _ _ f => f)
   exact ⟨hh.cell 2, (hW.block _ (heap_lt HDE.out) (fun f => f)).trans HDE.out, hh.cell 4⟩
  refine wp_region_held_drew (S := fun w' => w'.cell? ⟨s, 2, none⟩ = some (.map (some r)) ∧ w'.heap[w.heap.size]? = some (.cells ds 29 (0, 0)) ∧ w'.cell? ⟨s, 4, none⟩ = some (.int .i64 (σ.sp + 1))) (by kernel_rfl) (HSX.out _ ((Kept.refl _ wE).drew)) (fun hHeld => ?_)
  iterate 4
   refine tkn (v := ?_) 0 rfl ?_ ?_; rotate_left 1
   ·intro w hSw; obtain ⟨s1, s2, s3⟩ := hSw; go_simp; try with_reducible rfl
   try simp only [Act.put, tdy]
  refine tkg 4 (.agg ds) rfl (yields_row (by rfl) 29 _ rfl w.heap.size rfl 29 ds (0, 0) _ (fun w hSw => hSw.2.1) Tryz.underlying29 rfl hds) ?_
  try simp only [Act.put, tdy]
  refine tkp (v := ?_) 5 rfl ?_ ?_; rotate_left 1
  ·intro w hSw; obtain ⟨s1, s2, s3⟩ := hSw; go_simp; try with_reducible rfl
  try simp only [Act.put, tdy]
  iterate 4
   refine tkn (v := ?_) 7 rfl ?_ ?_; rotate_left 1
   ·intro w hSw; obtain ⟨s1, s2, s3⟩ := hSw; go_simp; try with_reducible rfl
   try simp only [Act.put, tdy]
  refine wpAnyH_ready (rs := [6]) (by kernel_rfl) (by simp) ?_
  refine AllReadyH.cons rfl (fun K hK => ?_) .nil
  go_simp
  refine (clone_any (.slice bo xs.length bc) xs wE.drew (HXE.out.kept2 (Kept.refl (fun _ => False) wE).drew (fun _ _ _ f => f)) (by omega)).mono ?_
  rintro e w6 ⟨v', rfl, hv1, hv2, hk6⟩
  have hk6' : Kept (fun _ => False) wE w6 := (Kept.refl _ wE).drew.trans hk6
  obtain ⟨vo, vc, hvv, _, _⟩ := id hv1
  subst hvv
  have H6 := hid_of (HSE.out.kept hk6' (fun _ _ f => f))
  obtain ⟨clock, hb6, hrs⟩ : ∃ clock, w6.heap[r]? = some (.map (σ.es.map En.ent).toArray clock) ∧ (r ≠ s ∧ Stampd clock σ.es) := by
   rcases H6.out.map with ⟨hh, _⟩ | ⟨r', clock, hh, hb, hrs⟩
   ·cases hh
   ·cases hh
    exact ⟨clock, hb, hrs⟩
  obtain ⟨clock', hcl, hrun⟩ := HRL.out w6 r clock σ.es hb6 (fun e he => (H6.out.key e he).1) (.slice vo xs.length vc) (σ.sp + 1)
  have HE7 : Hid (Stor (World.over w6 r (.map ((lays σ.es ⟨d, .slice vo xs.length vc, xs, σ.sp + 1, clock⟩).map En.ent).toArray clock')) s (.map (some r)) { σ with sp := σ.sp + 1, es := lays σ.es ⟨d, .slice vo xs.length vc, xs, σ.sp + 1, clock⟩ }) :=
   Stor.entry (σ := { σ with sp := σ.sp + 1 }) (e := ⟨d, .slice vo xs.length vc, xs, σ.sp + 1, clock⟩) H6.out hb6 hrs HKY.out hv1 hxr hn (fun g hg => by have h7 := (hv2 g hg).1; have h8 := HSE.out.lt; have h9 : wE.drew.heap.size = wE.heap.size := rfl; omega) hcl rfl
  have HK7 : Hid (Kept (fun k => k = r) w6 (World.over w6 r (.map ((lays σ.es ⟨d, .slice vo xs.length vc, xs, σ.sp + 1, clock⟩).map En.ent).toArray clock'))) := kept_over _ _ _
  have HK6 := hid_of hk6'
  have HD6 := hid_of ((hk6'.block _ (heap_lt HDE.out) (fun f => f)).trans HDE.out)
  have HBB : Hid (∃ bv born, (∀ g, bv.ownBlock = some g → w.heap.size ≤ g) ∧ lays σ.es ⟨d, .slice vo xs.length vc, xs, σ.sp + 1, clock⟩ = lays σ.es ⟨d, bv, xs, σ.sp + 1, born⟩) := ⟨.slice vo xs.length vc, clock, fun g hg => by have h7 := (hv2 g hg).1; have h8 := HKE.out.size; have h9 : wE.drew.heap.size = wE.heap.size := rfl; omega, rfl⟩
  generalize lays σ.es ⟨d, .slice vo xs.length vc, xs, σ.sp + 1, clock⟩ = es2 at *
  generalize World.over w6 r (.map (es2.map En.ent).toArray clock') = w7 at *
  clear hv1 hv2 hk6 hk6' hb6 hcl hrs
  refine hK.out _ _ (HSX.out _ HK6.out) (fun hHeld => ?_)
  clear hK K
  try simp only [Act.put, tdy]
  refine tkp (v := ?_) 11 rfl ?_ ?_; rotate_left 1
  ·intro w hSw; obtain ⟨s1, s2, s3⟩ := hSw; go_simp; try with_reducible rfl
  try simp only [Act.put, tdy]
  refine wpAnyH_ready (rs := [12]) (by kernel_rfl) (by simp) ?_
  refine AllReadyH.cons rfl (fun K hK => ?_) .nil
  go_simp
  refine hK.out _ _ ⟨HE7.out.cell 2, (HK7.out.block _ (heap_lt HD6.out) (fun f => hrd f.symm)).trans HD6.out, HE7.out.cell 4⟩ (fun hHeld => ?_)
  clear hK K
  try simp only [Act.put, tdy]
  refine wpAnyH_done (by kernel_rfl) ?_ _
  have c3 : w7.cell? ⟨s, 3, none⟩ = some (.int .i64 σ.us) := HE7.out.cell 3
  have f3 := HE7.out.fz 3
  have HEND := hid_of (HE7.out.set (σ' := { σ with us := σ.us + ((xs.length : Int) + 32) - ((n : Int) + 32), sp := σ.sp + 1, es := es2 }) 3 (.int .i64 (σ.us + ((xs.length : Int) + 32) - ((n : Int) + 32))) rfl rfl)
  clear hrun HRL HSX
  go_wp2
  go_ret
  refine ⟨rfl, .map (some r), _, ?_, HEND.out.1, ?_, (.inl rfl)⟩
  ·obtain ⟨bvv, born, hbg, hbb⟩ := HBB.out
   exact ⟨bvv, born, hbg, by rw [hus, hbb]⟩
  ·exact HKE.out.step (((HK6.out.mono (T := fun k => k = s ∨ k = r) (fun _ _ f => f.elim)).trans (HK7.out.mono (fun _ _ f => .inr f))).trans (HEND.out.2.mono (fun _ _ f => .inl f))) (fun i hi f => by rcases f with f | f; exact .inl f; exact hown i hi f)
end Go.Proofs.YtjdbmjkidljhpaaGreatDoor
namespace Go.Proofs.YtjdbmjkidljhpaaGreatDoor
open Go.RowKit
set_option linter.unusedVariables false
set_option linter.unusedSimpArgs false
set_option maxRecDepth 100000
theorem lay_ok {w : World} {s : Nat} {mv : Value} {σ : Sg} (h : Stor w s mv σ) (d : List Int) (hd : d.length = 32) (hdr : ∀ x ∈ d, 0 ≤ x ∧ x < 256) (bv : Value) (xs : List Int) (hx : BIn w bv xs) (hxr : ∀ x ∈ xs, 0 ≤ x ∧ x < 256) (hn : xs.length ≤ 1048576) (hu : 0 ≤ σ.us) (hu2 : σ.us ≤ 1099511627776) (hsp : 0 ≤ σ.sp) (hsp2 : σ.sp ≤ 1099511627776) (hov : usedOf σ d xs ≤ σ.cp) (hxs : xs ≠ [] → ∀ g, bv.ownBlock = some g → g ≠ s) :
  Calls Tryz.prog 51 #[.pointer (some ⟨s, 0, none⟩), dv d, bv] w fun e w' => e = .returned (.int .i64 0) ∧ ∃ mv' σ', LayOk w.heap.size σ σ' d xs ∧ Stor w' s mv' σ' ∧ Kept (Own s mv) w w' ∧ (mv' = mv ∨ ∃ r, mv' = .map (some r) ∧ w.heap.size ≤ r) := by
 rcases h.map with ⟨h1, _⟩ | ⟨r, c, h1, _⟩
 ·subst h1
  exact lay_first h d hd hdr bv xs hx hxr hn hu hu2 hsp hsp2 hov hxs
 ·subst h1
  exact lay_more h d hd hdr bv xs hx hxr hn hu hu2 hsp hsp2 hov hxs
/-- A Put is counted. -/
def Sg.put1 (σ : Sg) : Sg := { σ with pt := σ.pt + 1 }
theorem zer32 : (zeros32.map (Value.int .u8)).toArray = z32 := rfl
theorem sha_range (xs : List Int) : ∀ x ∈ sha xs, 0 ≤ x ∧ x < 256 := by
 intro x hx
 unfold sha dig at hx
 obtain ⟨i, _, rfl⟩ := List.mem_map.1 hx
 unfold dbyte
 omega
theorem front_range (k : Nat) (xs : List Int) (h2 : k ≤ 32) : ∀ x ∈ frontOf k xs, 0 ≤ x ∧ x < 256 := by
 intro x hx
 unfold frontOf cutL at hx
 rcases List.mem_append.1 hx with h | h
 ·exact sha_range xs x (List.mem_of_mem_take h)
 ·have := List.eq_of_mem_replicate h
  omega
/-- A row elsewhere is written over. -/
theorem Stor.setRow {w : World} {s : Nat} {mv : Value} {σ : Sg} (h : Stor w s mv σ) (g : Nat) (cs : Array Value) {old : Array Value} {t : TypeId} {f : Nat × Nat} (hg : w.heap[g]? = some (.cells old t f)) (hgs : g ≠ s ∧ ∀ e ∈ σ.es, e.xs ≠ [] → e.bv.ownBlock ≠ some g) : Stor (w.setRow g cs) s mv σ := by
 have hk : Kept (fun k => k = g) w (w.setRow g cs) := kept_row w g cs
 refine ⟨(hk.block s h.lt (fun e => hgs.1 e.symm)).trans h.blk, ?_, h.key, fun e he => ?_⟩
 ·rcases h.map with h1 | ⟨r, c, h1, h2, h3⟩
  ·exact .inl h1
  ·exact .inr ⟨r, c, h1, (hk.block r (heap_lt h2) (fun e => by rw [e, hg] at h2; cases h2)).trans h2, h3⟩
 ·obtain ⟨a, b⟩ := h.blob e he
  exact ⟨a.kept2 hk (fun hx g' hg' e' => hgs.2 e he hx (by rw [hg', e'])), b⟩
end Go.Proofs.YtjdbmjkidljhpaaGreatDoor

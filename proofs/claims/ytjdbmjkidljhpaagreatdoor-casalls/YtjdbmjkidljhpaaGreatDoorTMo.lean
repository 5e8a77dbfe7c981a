/-
 Mo: Cevict, Cfound0, Cjoin.
-/
import Derived.Test.YtjdbmjkidljhpaaGreatDoorTMn
import Derived.Test.YtjdbmjkidljhpaaGreatDoorTMa
import Derived.Deep.MidRow
namespace Go.Proofs.YtjdbmjkidljhpaaGreatDoor
open Go.RowKit
set_option linter.unusedVariables false
set_option linter.unusedSimpArgs false
set_option maxRecDepth 100000
theorem limit_any {w : World} {s : Nat} {mv : Value} {σ : Sg} (h : Stor w s mv σ) (n : Int) :
  Calls Tryz.prog 17 #[.pointer (some ⟨s, 0, none⟩), .int .i64 n] w fun e w' => ∃ q σ', e = .returned (.int .i64 q) ∧ Stor w' s mv σ' ∧ (σ' = σ ∨ (0 ≤ n ∧ n ≤ 67108864 ∧ σ' = { σ with cp := n })) ∧ Kept (fun k => k = s) w w' := by
 have HM := hid_of (may_any n)
 have c1 : w.cell? ⟨s, 1, none⟩ = some (.int .i64 σ.cp) := h.cell 1
 have f1 := h.fz 1
 have HS := hid_of h
 by_cases hn : 0 ≤ n ∧ n ≤ 67108864
 ·rw [decide_eq_true hn] at HM
  have HC := hid_of (h.set (σ' := { σ with cp := n }) 1 (.int .i64 n) rfl rfl)
  have HN := hid_of hn
  clear h hn
  go_enter Tryz.func17, Tryz.ntmps17
  go_wp2_with fail
  refine (HM.out _).mono ?_
  rintro e w1 ⟨rfl, hw1⟩
  have hw1' := hw1.symm
  clear hw1
  subst hw1'
  go_wp2
  go_ret
  exact ⟨_, _, rfl, HC.out.1, .inr ⟨HN.out.1, HN.out.2, rfl⟩, HC.out.2⟩
 ·rw [decide_eq_false hn] at HM
  clear h hn
  go_enter Tryz.func17, Tryz.ntmps17
  go_wp2_with fail
  refine (HM.out _).mono ?_
  rintro e w1 ⟨rfl, hw1⟩
  have hw1' := hw1.symm
  clear hw1
  subst hw1'
  go_wp2
  go_ret
  exact ⟨_, σ, rfl, HS.out, .inl rfl, Kept.refl _ _⟩
theorem ents_erase : ∀ (es : List En) (d : List Int) (i : Nat) (p : Nat × Value), lookI es d i = some p → ∃ j, p.1 = i + j ∧ (es.map En.ent).toArray.eraseIdxIfInBounds j = ((drops es d).map En.ent).toArray
 | [], d, i, p, h => by cases h
 | x :: es, d, i, p, h => by
  unfold lookI at h
  by_cases hk : d = x.k
  ·rw [if_pos hk] at h
   cases h
   refine ⟨0, rfl, ?_⟩
   rw [drops, if_pos hk]
   apply Array.ext'
   simp
  ·rw [if_neg hk] at h
   obtain ⟨j, h1, h3⟩ := ents_erase es d (i + 1) p h
   refine ⟨j + 1, by omega, ?_⟩
   rw [drops, if_neg hk]
   apply Array.ext'
   have := congrArg Array.toList h3
   simp at this ⊢
   exact this
theorem run_drop (w : World) (r clock : Nat) (es : List En) (hb : w.heap[r]? = some (.map (es.map En.ent).toArray clock)) (h : ∀ e ∈ es, e.k.length = 32) (d : List Int) (hd : d.length = 32) (hl : (look es d).isSome = true) (ty : TypeId) :
  (Builtin.delete_ #[63, 29] ty #[.map (some r), dv d]).run Tryz.prog w = .ok (.tuple #[]) (World.over w r (.map ((drops es d).map En.ent).toArray clock)) := by
 have hs := look_some es d 0
 unfold Builtin.delete_
 simp only [Sem.run_bind, run_underlying Tryz.underlying63, Result.andThen_ok, got hb, check_digest w _ 9998 d hd, List.getElem?_toArray, List.getElem?_cons_zero, List.getElem?_cons_succ]
 rw [run_find w d hd es h]
 cases h1 : lookI es d 0 with
 | none =>
  rw [h1] at hs
  cases h2 : look es d with
  | none => rw [h2] at hl; cases hl
  | some e => rw [h2] at hs; cases hs
 | some p =>
  obtain ⟨j, e1, e3⟩ := ents_erase es d 0 p h1
  obtain ⟨i, v⟩ := p
  have hi : i = j := by simpa using e1
  subst hi
  simp only [Result.andThen_ok]
  rw [Sem.run_bind, set_got _ hb, ← e3]
  rfl
theorem drops_stampd {clock : Nat} {es : List En} {d : List Int} (h : Stampd clock es) : Stampd clock (drops es d) := ⟨fun b hb => h.1 b (((drops_sub es d).map En.born).subset hb), h.2.1.sublist ((drops_sub es d).map En.born), h.2.2.sublist ((drops_sub es d).map En.k)⟩
theorem Stor.drop {W : World} {s r clock : Nat} {σ : Sg} (h : Stor W s (.map (some r)) σ) (hb : W.heap[r]? = some (.map (σ.es.map En.ent).toArray clock)) (hrs : r ≠ s ∧ Stampd clock σ.es) (d : List Int) :
  Stor (World.over W r (.map ((drops σ.es d).map En.ent).toArray clock)) s (.map (some r)) { σ with es := drops σ.es d } := by
 have hkp := kept_over W r (.map ((drops σ.es d).map En.ent).toArray clock)
 refine ⟨(hkp.block s h.lt (fun e => hrs.1 e.symm)).trans h.blk, .inr ⟨r, clock, rfl, over_same W r _ (heap_lt hb), hrs.1, drops_stampd hrs.2⟩, fun x hxm => h.key x (drops_mem _ _ _ hxm), fun x hxm => ?_⟩
 obtain ⟨a1, a2, a3, a4⟩ := h.blob x (drops_mem _ _ _ hxm)
 exact ⟨a1.kept2 hkp (fun hx g hg e => by subst e; exact not_map a1 hx hb hg), a2, a3, a4⟩
theorem field1 (W : World) (a b : Value) : (Instr.field 87 (.agg #[a, b]) 1).run Tryz.prog W = .ok b W := by kernel_rfl
/-- The stamp of what lies there. -/
def stampOf (es : List En) (d : List Int) : Int := match look es d with | some e => e.st | none => 0
theorem Stor.shape2 {w : World} {s : Nat} {mv : Value} {σ : Sg} (h : Stor w s mv σ) (d : List Int) : ∃ ao n c, lookV σ.es d = .agg #[.slice ao n c, .int .i64 (stampOf σ.es d)] ∧ ∀ e, look σ.es d = some e → n = e.xs.length ∧ e.xs.length ≤ 1048576 := by
 unfold lookV stampOf
 cases hl : look σ.es d with
 | none => exact ⟨none, 0, 0, rfl, fun e he => by cases he⟩
 | some e =>
  obtain ⟨ao, c, hb, _⟩ := (h.blob e (look_mem _ _ _ hl).1).1
  refine ⟨ao, e.xs.length, c, by show Value.agg #[e.bv, .int .i64 e.st] = _; rw [hb], fun e' he => ?_⟩
  cases he
  exact ⟨rfl, (h.blob e (look_mem _ _ _ hl).1).2.2.1⟩
set_option maxHeartbeats 4000000 in
theorem stamp_any {w : World} {s : Nat} {mv : Value} {σ : Sg} (h : Stor w s mv σ) (d : List Int) (hd : d.length = 32) :
  Calls Tryz.prog 25 #[.pointer (some ⟨s, 0, none⟩), dv d] w fun e w' => e = .returned (.int .i64 (stampOf σ.es d)) ∧ Kept (fun _ => False) w w' := by
 obtain ⟨ao, n, c, hV, _⟩ := h.shape2 d
 have hds := size28_of d hd
 have HL2 : Hid (∀ W, Kept (fun _ => False) w W → (Instr.lookup 63 mv (.agg (d.map (Value.int .u8)).toArray) false).run Tryz.prog W = .ok (.agg #[.slice ao n c, .int .i64 (stampOf σ.es d)]) W) := fun W hW => by
  have := h.lookw d hd false W hW
  rw [hV] at this
  exact this
 have HM : Hid (w.cell? ⟨s, 2, none⟩ = some mv) := h.cell 2
 clear h hV
 unfold dv
 generalize stampOf σ.es d = st at *
 generalize (d.map (Value.int .u8)).toArray = ds at *
 have HS : Hid (∀ W, Kept (fun _ => False) (w.alloc (.cells ds 29)) W → W.cell? ⟨s, 2, none⟩ = some mv ∧ W.heap[w.heap.size]? = some (.cells ds 29 (0, 0)) ∧ (Instr.lookup 63 mv (.agg ds) false).run Tryz.prog W = .ok (.agg #[.slice ao n c, .int .i64 st]) W) := fun W hW =>
  ⟨hW.cell ((Kept.refl (fun _ => False) w).alloc _ |>.cell HM.out (fun f => f)) (fun f => f), (hW.block _ (by simp) (fun f => f)).trans (alloc_new _ _ rfl), HL2.out W (((Kept.refl (fun _ => False) w).alloc _).trans hW)⟩
 have HKA : Hid (Kept (fun _ => False) w (w.alloc (.cells ds 29))) := (Kept.refl _ w).alloc _
 have hF1 : ∀ W : World, (Instr.field 87 (.agg #[.slice ao n c, .int .i64 st]) 1).run Tryz.prog W = .ok (.int .i64 st) W := fun W => field1 W _ _
 go_enter Tryz.func25, Tryz.ntmps25
 go_wp2
 generalize w.alloc (.cells ds 29) = wA at *
 refine wp_region_held_drew (S := fun w' => w'.cell? ⟨s, 2, none⟩ = some mv ∧ w'.heap[w.heap.size]? = some (.cells ds 29 (0, 0)) ∧ (Instr.lookup 63 mv (.agg ds) false).run Tryz.prog w' = .ok (.agg #[.slice ao n c, .int .i64 st]) w') (by kernel_rfl) (HS.out _ ((Kept.refl _ wA).drew)) (fun hHeld => ?_)
 iterate 4
  refine tkn (v := ?_) 0 rfl ?_ ?_; rotate_left 1
  ·intro w hSw; obtain ⟨s1, s2, s3⟩ := hSw; go_simp; try with_reducible rfl
  try simp only [Act.put, tdy]
 refine tkg 4 (.agg ds) rfl (yields_row (by rfl) 29 _ rfl w.heap.size rfl 29 ds (0, 0) _ (fun w hSw => hSw.2.1) Tryz.underlying29 rfl hds) ?_
 try simp only [Act.put, tdy]
 iterate 3
  refine tkn (v := ?_) 5 rfl ?_ ?_; rotate_left 1
  ·intro w hSw; obtain ⟨s1, s2, s3⟩ := hSw; go_simp; try with_reducible rfl
  try simp only [Act.put, tdy]
 refine wpAnyH_done (by kernel_rfl) ?_ _
 go_wp2
 go_ret
 exact ⟨rfl, HKA.out.drew⟩
set_option maxHeartbeats 4000000 in
theorem evict_none {w : World} {s : Nat} {mv : Value} {σ : Sg} (h : Stor w s mv σ) (d : List Int) (hd : d.length = 32) (hl : look σ.es d = none) :
  Calls Tryz.prog 47 #[.pointer (some ⟨s, 0, none⟩), dv d] w fun e w' => e = .returned (.bool false) ∧ Kept (fun _ => False) w w' := by
 obtain ⟨ao, n, c, st, hV⟩ := h.shape d
 have hds := size28_of d hd
 have HL2 : Hid (∀ W, Kept (fun _ => False) w W → (Instr.lookup 63 mv (.agg (d.map (Value.int .u8)).toArray) true).run Tryz.prog W = .ok (.tuple #[.agg #[.slice ao n c, .int .i64 st], .bool false]) W) := fun W hW => by
  have := h.lookw d hd true W hW
  rw [hV, hl] at this
  exact this
 have HM : Hid (w.cell? ⟨s, 2, none⟩ = some mv) := h.cell 2
 clear h hV hl
 unfold dv
 generalize (d.map (Value.int .u8)).toArray = ds at *
 have HS : Hid (∀ W, Kept (fun _ => False) (w.alloc (.cells ds 29)) W → W.cell? ⟨s, 2, none⟩ = some mv ∧ W.heap[w.heap.size]? = some (.cells ds 29 (0, 0)) ∧ (Instr.lookup 63 mv (.agg ds) true).run Tryz.prog W = .ok (.tuple #[.agg #[.slice ao n c, .int .i64 st], .bool false]) W) := fun W hW =>
  ⟨hW.cell ((Kept.refl (fun _ => False) w).alloc _ |>.cell HM.out (fun f => f)) (fun f => f), (hW.block _ (by simp) (fun f => f)).trans (alloc_new _ _ rfl), HL2.out W (((Kept.refl (fun _ => False) w).alloc _).trans hW)⟩
 have HKA : Hid (Kept (fun _ => False) w (w.alloc (.cells ds 29))) := (Kept.refl _ w).alloc _
 go_enter Tryz.func47, Tryz.ntmps47
 go_wp2
 generalize w.alloc (.cells ds 29) = wA at *
 refine wp_region_held_drew (S := fun w' => w'.cell? ⟨s, 2, none⟩ = some mv ∧ w'.heap[w.heap.size]? = some (.cells ds 29 (0, 0)) ∧ (Instr.lookup 63 mv (.agg ds) true).run Tryz.prog w' = .ok (.tuple #[.agg #[.slice ao n c, .int .i64 st], .bool false]) w') (by kernel_rfl) (HS.out _ ((Kept.refl _ wA).drew)) (fun hHeld => ?_)
 iterate 4
  refine tkn (v := ?_) 0 rfl ?_ ?_; rotate_left 1
  ·intro w hSw; obtain ⟨s1, s2, s3⟩ := hSw; go_simp; try with_reducible rfl
  try simp only [Act.put, tdy]
 refine tkg 4 (.agg ds) rfl (yields_row (by rfl) 29 _ rfl w.heap.size rfl 29 ds (0, 0) _ (fun w hSw => hSw.2.1) Tryz.underlying29 rfl hds) ?_
 try simp only [Act.put, tdy]
 iterate 4
  refine tkn (v := ?_) 5 rfl ?_ ?_; rotate_left 1
  ·intro w hSw; obtain ⟨s1, s2, s3⟩ := hSw; go_simp; try with_reducible rfl
  try simp only [Act.put, tdy]
 refine wpAnyH_ready (rs := [9]) (by kernel_rfl) (by simp) ?_
 refine AllReadyH.cons rfl (fun K hK => ?_) .nil
 go_simp
 refine hK.out _ _ (HS.out _ (((Kept.refl _ wA).alloc _).drew)) (fun hHeld => ?_)
 clear hK K
 try simp only [Act.put, tdy]
 refine wpAnyH_ready (rs := [10]) (by kernel_rfl) (by simp) ?_
 refine AllReadyH.cons rfl (fun K hK => ?_) .nil
 go_simp
 refine hK.out _ _ (HS.out _ (((Kept.refl _ wA).alloc _).drew)) (fun hHeld => ?_)
 clear hK K
 try simp only [Act.put, tdy]
 refine tkp (v := ?_) 11 rfl ?_ ?_; rotate_left 1
 ·intro w hSw; obtain ⟨s1, s2, s3⟩ := hSw; go_simp; try with_reducible rfl
 try simp only [Act.put, tdy]
 refine wpAnyH_done (by kernel_rfl) ?_ _
 go_wp2
 go_ret
 exact ⟨rfl, (HKA.out.alloc _).drew⟩
set_option maxHeartbeats 4000000 in
theorem evict_some {w : World} {s : Nat} {mv : Value} {σ : Sg} (h : Stor w s mv σ) (d : List Int) (hd : d.length = 32) (e : En) (hl : look σ.es d = some e) (hu : -1099511627776 ≤ σ.us) (hu2 : σ.us ≤ 1099511627776) :
  Calls Tryz.prog 47 #[.pointer (some ⟨s, 0, none⟩), dv d] w fun f w' => f = .returned (.bool true) ∧ Stor w' s mv { σ with us := σ.us - ((e.xs.length : Int) + 32), es := drops σ.es d } ∧ Kept (Own s mv) w w' := by
 obtain ⟨ao, n, c, hV, hnn⟩ := h.shape2 d
 obtain ⟨hn1, hn2⟩ := hnn e hl
 rw [← hn1] at hn2 ⊢
 clear hn1
 have hds := size28_of d hd
 have HL2 : Hid (∀ W, Kept (fun _ => False) w W → (Instr.lookup 63 mv (.agg (d.map (Value.int .u8)).toArray) true).run Tryz.prog W = .ok (.tuple #[.agg #[.slice ao n c, .int .i64 (stampOf σ.es d)], .bool true]) W) := fun W hW => by
  have := h.lookw d hd true W hW
  rw [hV, hl] at this
  exact this
 have HM : Hid (w.cell? ⟨s, 2, none⟩ = some mv) := h.cell 2
 obtain ⟨r, clock, hmv, hr, hrs⟩ : ∃ r clock, mv = .map (some r) ∧ w.heap[r]? = some (.map (σ.es.map En.ent).toArray clock) ∧ (r ≠ s ∧ Stampd clock σ.es) := by
  rcases h.map with ⟨_, h1⟩ | h1
  ·rw [h1] at hl; cases hl
  ·exact h1
 subst hmv
 have hsl := h.lt
 have hrl := heap_lt hr
 have hwp : IntKind.i64.wrap (σ.us - ((n : Int) + 32)) = σ.us - ((n : Int) + 32) := by rw [IntKind.wrap_i64]; omega
 have HDEL : Hid (∀ W : World, ∀ clock, W.heap[r]? = some (.map (σ.es.map En.ent).toArray clock) → ∀ ty, (Builtin.delete_ #[63, 29] ty #[.map (some r), .agg (d.map (Value.int .u8)).toArray]).run Tryz.prog W = .ok (.tuple #[]) (World.over W r (.map ((drops σ.es d).map En.ent).toArray clock))) := fun W clock hW ty => run_drop W r clock σ.es hW (fun x hx => (h.key x hx).1) d hd (by rw [hl]; rfl) ty
 have HST := hid_of h
 have HLE := hid_of hn2
 have HR := hid_of hr
 clear h hV hl hnn hr
 unfold dv
 generalize stampOf σ.es d = st at *
 generalize (d.map (Value.int .u8)).toArray = ds at *
 have HS : Hid (∀ W, Kept (fun _ => False) (w.alloc (.cells ds 29)) W → W.cell? ⟨s, 2, none⟩ = some (.map (some r)) ∧ W.heap[w.heap.size]? = some (.cells ds 29 (0, 0)) ∧ (Instr.lookup 63 (.map (some r)) (.agg ds) true).run Tryz.prog W = .ok (.tuple #[.agg #[.slice ao n c, .int .i64 st], .bool true]) W) := fun W hW =>
  ⟨hW.cell ((Kept.refl (fun _ => False) w).alloc _ |>.cell HM.out (fun f => f)) (fun f => f), (hW.block _ (by simp) (fun f => f)).trans (alloc_new _ _ rfl), HL2.out W (((Kept.refl (fun _ => False) w).alloc _).trans hW)⟩
 have HKA : Hid (Kept (fun _ => False) w (w.alloc (.cells ds 29))) := (Kept.refl _ w).alloc _
 go_enter Tryz.func47, Tryz.ntmps47
 go_wp2
 generalize w.alloc (.cells ds 29) = wA at *
 refine wp_region_held_drew (S := fun w' => w'.cell? ⟨s, 2, none⟩ = some (.map (some r)) ∧ w'.heap[w.heap.size]? = some (.cells ds 29 (0, 0)) ∧ (Instr.lookup 63 (.map (some r)) (.agg ds) true).run Tryz.prog w' = .ok (.tuple #[.agg #[.slice ao n c, .int .i64 st], .bool true]) w') (by kernel_rfl) (HS.out _ ((Kept.refl _ wA).drew)) (fun hHeld => ?_)
 iterate 4
  refine tkn (v := ?_) 0 rfl ?_ ?_; rotate_left 1
  ·intro w hSw; obtain ⟨s1, s2, s3⟩ := hSw; go_simp; try with_reducible rfl
  try simp only [Act.put, tdy]
 refine tkg 4 (.agg ds) rfl (yields_row (by rfl) 29 _ rfl w.heap.size rfl 29 ds (0, 0) _ (fun w hSw => hSw.2.1) Tryz.underlying29 rfl hds) ?_
 try simp only [Act.put, tdy]
 iterate 4
  refine tkn (v := ?_) 5 rfl ?_ ?_; rotate_left 1
  ·intro w hSw; obtain ⟨s1, s2, s3⟩ := hSw; go_simp; try with_reducible rfl
  try simp only [Act.put, tdy]
 refine wpAnyH_ready (rs := [9]) (by kernel_rfl) (by simp) ?_
 refine AllReadyH.cons rfl (fun K hK => ?_) .nil
 go_simp
 refine hK.out _ _ (HS.out _ (((Kept.refl _ wA).alloc _).drew)) (fun hHeld => ?_)
 clear hK K
 try simp only [Act.put, tdy]
 refine wpAnyH_ready (rs := [10]) (by kernel_rfl) (by simp) ?_
 refine AllReadyH.cons rfl (fun K hK => ?_) .nil
 go_simp
 refine hK.out _ _ (HS.out _ (((Kept.refl _ wA).alloc _).drew)) (fun hHeld => ?_)
 clear hK K
 try simp only [Act.put, tdy]
 refine tkp (v := ?_) 11 rfl ?_ ?_; rotate_left 1
 ·intro w hSw; obtain ⟨s1, s2, s3⟩ := hSw; go_simp; try with_reducible rfl
 try simp only [Act.put, tdy]
 refine wpAnyH_done (by kernel_rfl) ?_ _
 have HKC : Hid (Kept (fun _ => False) w (wA.alloc (.cells #[.slice ao n c, .int .i64 st] 87)).drew) := (HKA.out.alloc _).drew
 have HC5 : Hid ((wA.alloc (.cells #[.slice ao n c, .int .i64 st] 87)).drew.cell? ⟨wA.heap.size, 0, none⟩ = some (.slice ao n c)) := (cell_block _ _ _ _ _ _ (alloc_new wA _ rfl)).trans rfl
 have HD3 : Hid ((wA.alloc (.cells #[.slice ao n c, .int .i64 st] 87)).drew.heap[w.heap.size]? = some (.cells ds 29 (0, 0))) := alloc_old (HS.out wA (Kept.refl _ _)).2.1
 have hb5l : w.heap.size ≤ wA.heap.size := HKA.out.size
 have hb5k : w.heap.size < wA.heap.size := heap_lt (HS.out wA (Kept.refl _ _)).2.1
 generalize wA.heap.size = b5 at *
 generalize (wA.alloc (.cells #[.slice ao n c, .int .i64 st] 87)).drew = wC at *
 clear HS HKA HL2
 have HSC := hid_of (HST.out.kept HKC.out (fun _ _ f => f))
 have HRC := hid_of ((HKC.out.block r hrl (fun f => f)).trans HR.out)
 have HU : Hid (∀ W, Stor W s (.map (some r)) σ → W.cell? ⟨s, 3, none⟩ = some (.int .i64 σ.us) ∧ W.frozen? ⟨s, 3, none⟩ = false) := fun W hW => ⟨hW.cell 3, hW.fz 3⟩
 have HSET : Hid (∀ W, Stor W s (.map (some r)) σ → Stor (W.setCell ⟨s, 3, none⟩ (.int .i64 (σ.us - ((n : Int) + 32)))) s (.map (some r)) { σ with us := σ.us - ((n : Int) + 32) } ∧ Kept (fun k => k = s) W (W.setCell ⟨s, 3, none⟩ (.int .i64 (σ.us - ((n : Int) + 32))))) := fun W hW => hW.set 3 _ rfl rfl
 obtain ⟨hu3, hf3⟩ := HU.out wC.drew (HSC.out.kept (Kept.refl (fun _ => False) wC).drew (fun _ _ f => f))
 have hc5 := HC5.out
 have hnl := HLE.out
 go_wp2
 refine wp_region_held_drew (S := fun w' => w'.cell? ⟨b5, 0, none⟩ = some (.slice ao n c)) (by kernel_rfl) HC5.out (fun hHeld => ?_)
 iterate 3
  refine tkn (v := ?_) 0 rfl ?_ ?_; rotate_left 1
  ·intro w hSw; go_simp; try with_reducible rfl
  try simp only [Act.put, tdy]
 iterate 2
  refine tkn (v := ?_) 4 rfl ?_ ?_; rotate_left 1
  ·intro w hSw; go_simp; try with_reducible rfl
  try simp only [Act.put, tdy]
 refine wpAnyH_ready (rs := [3, 6]) (by kernel_rfl) (by simp) ?_
 refine AllReadyH.cons rfl (fun K hK => ?_) (AllReadyH.cons rfl (fun K hK => ?_) .nil)
 ·go_simp
  refine hK.out _ _ hc5 (fun hHeld => ?_)
  clear hK K
  try simp only [Act.put, tdy]
  refine wpAnyH_ready (rs := [6]) (by kernel_rfl) (by simp) ?_
  refine AllReadyH.cons rfl (fun K hK => ?_) .nil
  go_simp
  refine (cost_any _ _ _ _ (by omega)).mono ?_
  rintro e w' ⟨rfl, hw'⟩
  have hw'' := hw'.symm
  clear hw'
  subst hw''
  refine hK.out _ _ hc5 (fun hHeld => ?_)
  clear hK K
  try simp only [Act.put, tdy]
  iterate 3
   refine tkn (v := ?_) 7 rfl ?_ ?_; rotate_left 1
   ·intro w hSw; go_simp; try with_reducible rfl
   try simp only [Act.put, tdy]
  refine wpAnyH_ready (rs := [10]) (by kernel_rfl) (by simp) ?_
  refine AllReadyH.cons rfl (fun K hK => ?_) .nil
  go_simp
  refine hK.out _ _ ((kept_set _ ⟨s, 3, none⟩ _).cell hc5 (by show ¬ b5 = s; omega)) (fun hHeld => ?_)
  clear hK K
  try simp only [Act.put, tdy]
  refine wpAnyH_done (by kernel_rfl) ?_ _
  go_wp2
  obtain ⟨hSD, hKD⟩ := HSET.out wC HSC.out
  have HSD : Hid (Stor (wC.setCell ⟨s, 3, none⟩ (.int .i64 (σ.us - ((n : Int) + 32)))).drew s (.map (some r)) { σ with us := σ.us - ((n : Int) + 32) }) := hSD.kept (Kept.refl (fun _ => False) _).drew (fun _ _ f => f)
  have HRD : Hid ((wC.setCell ⟨s, 3, none⟩ (.int .i64 (σ.us - ((n : Int) + 32)))).drew.heap[r]? = some (.map (σ.es.map En.ent).toArray clock)) := (hKD.block r (heap_lt HRC.out) hrs.1).trans HRC.out
  have HDD : Hid ((wC.setCell ⟨s, 3, none⟩ (.int .i64 (σ.us - ((n : Int) + 32)))).drew.heap[w.heap.size]? = some (.cells ds 29 (0, 0))) := (hKD.block _ (heap_lt HD3.out) (by omega)).trans HD3.out
  have HKD : Hid (Kept (fun k => k = s) wC (wC.setCell ⟨s, 3, none⟩ (.int .i64 (σ.us - ((n : Int) + 32)))).drew) := hKD.drew
  clear hSD hKD HSET HU hu3 hf3 hc5 HC5 HD3 HRC HSC
  generalize (wC.setCell ⟨s, 3, none⟩ (.int .i64 (σ.us - ((n : Int) + 32)))).drew = wD at *
  have hdel := HDEL.out wD.drew clock HRD.out
  have HSO := hid_of ((HSD.out.kept (Kept.refl (fun _ => False) wD).drew (fun _ _ f => f)).drop HRD.out hrs d)
  have hko := kept_over wD.drew r (.map ((drops σ.es d).map En.ent).toArray clock)
  have HKO : Hid (Kept (Own s (.map (some r))) w (World.over wD.drew r (.map ((drops σ.es d).map En.ent).toArray clock))) := ((HKC.out.mono (fun _ _ f => f.elim)).trans (HKD.out.mono (fun _ _ h => .inl h)).drew).trans (hko.mono (fun k _ h => .inr (by rw [h])))
  have hso : (World.over wD.drew r (.map ((drops σ.es d).map En.ent).toArray clock)).cell? ⟨s, 2, none⟩ = some (.map (some r)) ∧ (World.over wD.drew r (.map ((drops σ.es d).map En.ent).toArray clock)).heap[w.heap.size]? = some (.cells ds 29 (0, 0)) := ⟨HSO.out.cell 2, (hko.block _ (heap_lt HDD.out) (by omega)).trans HDD.out⟩
  clear hko HDEL HKC HKD
  refine wp_region_held_drew (S := fun w' => w'.cell? ⟨s, 2, none⟩ = some (.map (some r)) ∧ w'.heap[w.heap.size]? = some (.cells ds 29 (0, 0))) (by kernel_rfl) ⟨HSD.out.cell 2, HDD.out⟩ (fun hHeld => ?_)
  iterate 4
   refine tkn (v := ?_) 0 rfl ?_ ?_; rotate_left 1
   ·intro w hSw; obtain ⟨s1, s2⟩ := hSw; go_simp; try with_reducible rfl
   try simp only [Act.put, tdy]
  refine tkg 4 (.agg ds) rfl (yields_row (by rfl) 29 _ rfl w.heap.size rfl 29 ds (0, 0) _ (fun w hSw => hSw.2) Tryz.underlying29 rfl hds) ?_
  try simp only [Act.put, tdy]
  refine wpAnyH_ready (rs := [5]) (by kernel_rfl) (by simp) ?_
  refine AllReadyH.cons rfl (fun K hK => ?_) .nil
  go_simp
  refine hK.out _ _ hso (fun hHeld => ?_)
  clear hK K
  try simp only [Act.put, tdy]
  refine wpAnyH_done (by kernel_rfl) ?_ _
  go_wp2
  go_ret
  exact ⟨rfl, HSO.out, HKO.out⟩
 ·go_simp
  refine (cost_any _ _ _ _ (by omega)).mono ?_
  rintro e' w' ⟨rfl, hw'⟩
  have hw'' := hw'.symm
  clear hw'
  subst hw''
  refine hK.out _ _ hc5 (fun hHeld => ?_)
  clear hK K
  try simp only [Act.put, tdy]
  refine wpAnyH_ready (rs := [3]) (by kernel_rfl) (by simp) ?_
  refine AllReadyH.cons rfl (fun K hK => ?_) .nil
  go_simp
  refine hK.out _ _ hc5 (fun hHeld => ?_)
  clear hK K
  try simp only [Act.put, tdy]
  iterate 3
   refine tkn (v := ?_) 7 rfl ?_ ?_; rotate_left 1
   ·intro w hSw; go_simp; try with_reducible rfl
   try simp only [Act.put, tdy]
  refine wpAnyH_ready (rs := [10]) (by kernel_rfl) (by simp) ?_
  refine AllReadyH.cons rfl (fun K hK => ?_) .nil
  go_simp
  refine hK.out _ _ ((kept_set _ ⟨s, 3, none⟩ _).cell hc5 (by show ¬ b5 = s; omega)) (fun hHeld => ?_)
  clear hK K
  try simp only [Act.put, tdy]
  refine wpAnyH_done (by kernel_rfl) ?_ _
  go_wp2
  obtain ⟨hSD, hKD⟩ := HSET.out wC HSC.out
  have HSD : Hid (Stor (wC.setCell ⟨s, 3, none⟩ (.int .i64 (σ.us - ((n : Int) + 32)))).drew s (.map (some r)) { σ with us := σ.us - ((n : Int) + 32) }) := hSD.kept (Kept.refl (fun _ => False) _).drew (fun _ _ f => f)
  have HRD : Hid ((wC.setCell ⟨s, 3, none⟩ (.int .i64 (σ.us - ((n : Int) + 32)))).drew.heap[r]? = some (.map (σ.es.map En.ent).toArray clock)) := (hKD.block r (heap_lt HRC.out) hrs.1).trans HRC.out
  have HDD : Hid ((wC.setCell ⟨s, 3, none⟩ (.int .i64 (σ.us - ((n : Int) + 32)))).drew.heap[w.heap.size]? = some (.cells ds 29 (0, 0))) := (hKD.block _ (heap_lt HD3.out) (by omega)).trans HD3.out
  have HKD : Hid (Kept (fun k => k = s) wC (wC.setCell ⟨s, 3, none⟩ (.int .i64 (σ.us - ((n : Int) + 32)))).drew) := hKD.drew
  clear hSD hKD HSET HU hu3 hf3 hc5 HC5 HD3 HRC HSC
  generalize (wC.setCell ⟨s, 3, none⟩ (.int .i64 (σ.us - ((n : Int) + 32)))).drew = wD at *
  have hdel := HDEL.out wD.drew clock HRD.out
  have HSO := hid_of ((HSD.out.kept (Kept.refl (fun _ => False) wD).drew (fun _ _ f => f)).drop HRD.out hrs d)
  have hko := kept_over wD.drew r (.map ((drops σ.es d).map En.ent).toArray clock)
  have HKO : Hid (Kept (Own s (.map (some r))) w (World.over wD.drew r (.map ((drops σ.es d).map En.ent).toArray clock))) := ((HKC.out.mono (fun _ _ f => f.elim)).trans (HKD.out.mono (fun _ _ h => .inl h)).drew).trans (hko.mono (fun k _ h => .inr (by rw [h])))
  have hso : (World.over wD.drew r (.map ((drops σ.es d).map En.ent).toArray clock)).cell? ⟨s, 2, none⟩ = some (.map (some r)) ∧ (World.over wD.drew r (.map ((drops σ.es d).map En.ent).toArray clock)).heap[w.heap.size]? = some (.cells ds 29 (0, 0)) := ⟨HSO.out.cell 2, (hko.block _ (heap_lt HDD.out) (by omega)).trans HDD.out⟩
  clear hko HDEL HKC HKD
  refine wp_region_held_drew (S := fun w' => w'.cell? ⟨s, 2, none⟩ = some (.map (some r)) ∧ w'.heap[w.heap.size]? = some (.cells ds 29 (0, 0))) (by kernel_rfl) ⟨HSD.out.cell 2, HDD.out⟩ (fun hHeld => ?_)
  iterate 4
   refine tkn (v := ?_) 0 rfl ?_ ?_; rotate_left 1
   ·intro w hSw; obtain ⟨s1, s2⟩ := hSw; go_simp; try with_reducible rfl
   try simp only [Act.put, tdy]
  refine tkg 4 (.agg ds) rfl (yields_row (by rfl) 29 _ rfl w.heap.size rfl 29 ds (0, 0) _ (fun w hSw => hSw.2) Tryz.underlying29 rfl hds) ?_
  try simp only [Act.put, tdy]
  refine wpAnyH_ready (rs := [5]) (by kernel_rfl) (by simp) ?_
  refine AllReadyH.cons rfl (fun K hK => ?_) .nil
  go_simp
  refine hK.out _ _ hso (fun hHeld => ?_)
  clear hK K
  try simp only [Act.put, tdy]
  refine wpAnyH_done (by kernel_rfl) ?_ _
  go_wp2
  go_ret
  exact ⟨rfl, HSO.out, HKO.out⟩
end Go.Proofs.YtjdbmjkidljhpaaGreatDoor
namespace Go.Proofs.YtjdbmjkidljhpaaGreatDoor
open Go.RowKit
set_option linter.unusedVariables false
set_option linter.unusedSimpArgs false
set_option maxRecDepth 100000
/-- What was put: a digest, its bytes and where they lie. -/
structure Pt where
 d : List Int
 bv : Value
 xs : List Int
def Pt.cells (p : Pt) : List Value := p.d.map (Value.int .u8) ++ [p.bv]
structure Pt.Ok (w : World) (p : Pt) : Prop where
 len : p.d.length = 32
 bin : BIn w p.bv p.xs
 rng : ∀ x ∈ p.xs, 0 ≤ x ∧ x < 256
 short : p.xs.length ≤ 8192
/-- A value is a slice of such. -/
def PIs (w : World) (v : Value) (ps : List Pt) : Prop :=
 ∃ ao cap, v = .slice ao ps.length cap ∧ ∀ i p, ps[i]? = some p → p.Ok w ∧ ∃ g, ao = some ⟨g, 0, none⟩ ∧ w.rangeAt g (i * 33) p.cells
theorem BIn.u8 {w : World} {v : Value} {xs : List Int} (h : BIn w v xs) (hx : xs ≠ []) : ∀ g, v.ownBlock = some g → ∃ o x, w.cell? ⟨g, o, none⟩ = some (.int .u8 x) := by
 obtain ⟨ao, c, rfl, hc, h1⟩ := h
 rcases h1 with h1 | ⟨b, o, rfl, h1⟩
 ·exact absurd h1 hx
 ·intro g hg
  cases hg
  exact ⟨o, _, h1 0 (List.length_pos_iff.2 hx)⟩
/-- No byte lies in a Store's own blocks. -/
theorem Stor.no8 {w : World} {s : Nat} {mv : Value} {σ : Sg} (h : Stor w s mv σ) {g o : Nat} {x : Int} (hc : w.cell? ⟨g, o, none⟩ = some (.int .u8 x)) : ¬ Own s mv g := by
 intro ho
 rcases ho with rfl | hm
 ·rw [cell_block _ _ _ _ _ _ h.blk] at hc
  obtain ⟨r, rfl⟩ := h.ismap
  obtain ⟨hlt, hv⟩ := Array.getElem?_eq_some_iff.1 hc
  have hm := Array.getElem_mem hlt
  rw [hv] at hm
  simp [Sg.cells] at hm
 ·rcases h.map with ⟨h1, _⟩ | ⟨r, c, h1, h2, _⟩
  ·rw [h1] at hm; cases hm
  ·rw [h1] at hm
   cases hm
   obtain ⟨c', t, f, h3⟩ := cell_cells hc
   rw [h2] at h3
   cases h3
theorem BIn.stays {S : Nat → Prop} {w w' : World} {v : Value} {xs : List Int} (h : BIn w v xs) (hk : Kept S w w') (h8 : ∀ g o x, w.cell? ⟨g, o, none⟩ = some (.int .u8 x) → ¬ S g) : BIn w' v xs :=
 h.kept2 hk (fun hx g hg => by
  obtain ⟨o, x, hc⟩ := h.u8 hx g hg
  exact h8 g o x hc)
theorem Pt.Ok.stays {S : Nat → Prop} {w w' : World} {p : Pt} (h : p.Ok w) (hk : Kept S w w') (h8 : ∀ g o x, w.cell? ⟨g, o, none⟩ = some (.int .u8 x) → ¬ S g) : p.Ok w' := ⟨h.len, h.bin.stays hk h8, h.rng, h.short⟩
theorem Pt.first {p : Pt} (h : p.d.length = 32) : ∃ x, p.cells[0]? = some (.int .u8 x) := by
 unfold Pt.cells
 cases hd : p.d with
 | nil => rw [hd] at h; cases h
 | cons x l => exact ⟨x, rfl⟩
theorem PIs.stays {S : Nat → Prop} {w w' : World} {v : Value} {ps : List Pt} (h : PIs w v ps) (hk : Kept S w w') (h8 : ∀ g o x, w.cell? ⟨g, o, none⟩ = some (.int .u8 x) → ¬ S g) : PIs w' v ps := by
 obtain ⟨ao, cap, rfl, h⟩ := h
 refine ⟨ao, cap, rfl, fun i p hp => ?_⟩
 obtain ⟨h1, g, h2, h3⟩ := h i p hp
 refine ⟨h1.stays hk h8, g, h2, fun j u hj => ?_⟩
 obtain ⟨x, hx⟩ := Pt.first h1.len
 exact hk.cell (h3 j u hj) (h8 g _ x (h3 0 _ hx))
theorem Pt.range {w : World} {p : Pt} {g o : Nat} (h : p.d.length = 32) (hr : w.rangeAt g o p.cells) : w.rangeAt g o (p.d.map (Value.int .u8)) ∧ w.cell? ⟨g, o + 32, none⟩ = some p.bv := by
 refine ⟨fun j u hj => hr j u ?_, hr 32 p.bv ?_⟩
 ·unfold Pt.cells
  rw [List.getElem?_append_left (by have := (List.getElem?_eq_some_iff.1 hj).1; exact this)]
  exact hj
 ·unfold Pt.cells
  rw [List.getElem?_append_right (by simp [h])]
  simp [h]
theorem size28_list (d : List Int) (hd : d.length = 32) : (Tryz.prog.info? 29).map (·.size) = some (d.map (Value.int .u8)).length := by simp [size28, hd]
theorem wpList_mid_wanted {ops : Array Oper} {rest : List Oper} {op : Oper} {a : Act} {w : World} {Q : Exit → Act → World → Prop} (hw : Region.wanted op (yielded ops a.tmps) = true) (ty : TypeId) (x : Operand) (ho : op.op = .load ty x)
  (b o : Nat) (hx : a.eval x = .pointer (some ⟨b, o, none⟩)) (cs : List Value) (d : TypeDesc) (hc : w.rangeAt b o cs)
  (hu : Tryz.prog.underlying ty = some d) (hd : d.isRow = true) (hi : (Tryz.prog.info? ty).map (·.size) = some cs.length)
  (h : wpList Tryz.prog ops Q rest (a.put op.dst (.agg cs.toArray)) w) : wpList Tryz.prog ops Q (op :: rest) a w := by
 unfold wpList
 rw [if_pos hw]
 exact .inl (wp_load_mid ty x ho b o hx cs d hc hu hd hi h)
/-- All that was put lies there. -/
def Holds (k : Nat) (es : List En) (ps : List Pt) : Prop := ∀ p ∈ ps, frontOf k p.xs = p.d ∧ ∃ e, look es p.d = some e ∧ e.xs = p.xs
def Sg.gp (σ : Sg) (i : Nat) : Sg := { σ with gt := σ.gt + i, pt := σ.pt + i }
theorem holds_whole {k : Nat} {es : List En} {p : Pt} (h : frontOf k p.xs = p.d) {e : En} (he : look es p.d = some e) (hx : e.xs = p.xs) : wholeB k es p.d = true ∧ rawX es p.d = p.xs ∧ stampOf es p.d = e.st := by
 unfold wholeB rawX stampOf
 rw [he]
 exact ⟨decide_eq_true (by rw [hx, h]), hx, rfl⟩
end Go.Proofs.YtjdbmjkidljhpaaGreatDoor
namespace Go.Proofs.YtjdbmjkidljhpaaGreatDoor
open Go.RowKit
set_option linter.unusedVariables false
set_option linter.unusedSimpArgs false
set_option maxRecDepth 100000
set_option maxHeartbeats 4000000 in
theorem plant_arg {w : World} {s : Nat} {mv : Value} {σ : Sg} (h : Stor w s mv σ) (d : List Int) (hd : d.length = 32) (bv : Value) (xs : List Int) (hx : BIn w bv xs) (hn : xs.length ≤ 140737488355328) (hfit : fitsL d σ.wd = false) :
  Calls Tryz.prog 35 #[.pointer (some ⟨s, 0, none⟩), dv d, bv] w fun e w' => e = .returned (.int .i64 1) ∧ Kept (fun _ => False) w w' := by
 obtain ⟨bo, bc, hbv, _, _⟩ := id hx
 subst hbv
 have hds := size28_of d hd
 have HFI := hid_of (fun W => fits_any d σ.wd hd W)
 rw [hfit] at HFI
 have HW0 : Hid (w.cell? ⟨s, 0, none⟩ = some (.int .i64 σ.wd)) := h.cell 0
 clear h hx
 unfold dv
 clear hfit
 generalize (d.map (Value.int .u8)).toArray = ds at *
 have HKA : Hid (Kept (fun _ => False) w (w.alloc (.cells ds 29))) := (Kept.refl _ w).alloc _
 have HDA : Hid ((w.alloc (.cells ds 29)).heap[w.heap.size]? = some (.cells ds 29 (0, 0))) := alloc_new _ _ rfl
 go_enter Tryz.func35, Tryz.ntmps35
 go_wp2
 generalize w.alloc (.cells ds 29) = wA at *
 have cA := HKA.out.cell HW0.out (fun f => f)
 refine wp_region_held_drew (S := fun w' => w'.cell? ⟨s, 0, none⟩ = some (.int .i64 σ.wd) ∧ w'.heap[w.heap.size]? = some (.cells ds 29 (0, 0))) (by kernel_rfl) ⟨cA, HDA.out⟩ (fun hHeld => ?_)
 refine tkg 0 (.agg ds) rfl (yields_row (by rfl) 29 _ rfl w.heap.size rfl 29 ds (0, 0) _ (fun w hSw => hSw.2) Tryz.underlying29 rfl hds) ?_
 try simp only [Act.put, tdy]
 iterate 4
  refine tkn (v := ?_) 1 rfl ?_ ?_; rotate_left 1
  ·intro w hSw; obtain ⟨s1, s2⟩ := hSw; go_simp; try with_reducible rfl
  try simp only [Act.put, tdy]
 refine wpAnyH_ready (rs := [5]) (by kernel_rfl) (by simp) ?_
 refine AllReadyH.cons rfl (fun K hK => ?_) .nil
 go_simp
 refine (HFI.out _).mono ?_
 rintro e w1 ⟨rfl, hk1⟩
 have hk1' : Kept (fun _ => False) wA w1 := (Kept.refl _ wA).drew.trans hk1
 have HKB := hid_of (HKA.out.trans hk1')
 have HDB := hid_of ((hk1'.block _ (heap_lt HDA.out) (fun f => f)).trans HDA.out)
 have cB := hk1'.cell cA (fun f => f)
 clear hk1 hk1'
 refine hK.out _ _ ⟨cB, HDB.out⟩ (fun hHeld => ?_)
 clear hK K
 try simp only [Act.put, tdy]
 refine tkp (v := ?_) 6 rfl ?_ ?_; rotate_left 1
 ·intro w hSw; go_simp; try with_reducible rfl
 try simp only [Act.put, tdy]
 refine wpAnyH_done (by kernel_rfl) ?_ _
 go_wp2
 go_ret
 exact ⟨rfl, HKB.out⟩
set_option maxHeartbeats 4000000 in
theorem plant_full {w : World} {s : Nat} {mv : Value} {σ : Sg} (h : Stor w s mv σ) (d : List Int) (hd : d.length = 32) (bv : Value) (xs : List Int) (hx : BIn w bv xs) (hn : xs.length ≤ 140737488355328) (hfit : fitsL d σ.wd = true) (hxr : ∀ x ∈ xs, 0 ≤ x ∧ x < 256) (hdr : ∀ x ∈ d, 0 ≤ x ∧ x < 256) (hnl : xs.length ≤ 1048576) (hu : 0 ≤ σ.us) (hu2 : σ.us ≤ 1099511627776) (hsp : 0 ≤ σ.sp) (hsp2 : σ.sp ≤ 1099511627776) (hov : σ.cp < usedOf σ d xs) (hxs : xs ≠ [] → ∀ g, bv.ownBlock = some g → g ≠ s) :
  Calls Tryz.prog 35 #[.pointer (some ⟨s, 0, none⟩), dv d, bv] w fun e w' => e = .returned (.int .i64 43) ∧ Kept (fun _ => False) w w' := by
 obtain ⟨bo, bc, hbv, _, _⟩ := id hx
 subst hbv
 have hds := size28_of d hd
 have HFI := hid_of (fun W => fits_any d σ.wd hd W)
 rw [hfit] at HFI
 have HW0 : Hid (w.cell? ⟨s, 0, none⟩ = some (.int .i64 σ.wd)) := h.cell 0
 have HLAY : Hid (∀ W, Kept (fun _ => False) w W → Calls Tryz.prog 51 #[.pointer (some ⟨s, 0, none⟩), .agg (d.map (Value.int .u8)).toArray, .slice bo xs.length bc] W fun e' w' => e' = .returned (.int .i64 43) ∧ Kept (fun _ => False) W w') := fun W hW => lay_full (h.kept hW (fun _ _ f => f)) d hd _ xs (hx.kept2 hW (fun _ _ _ f => f)) hnl hu hu2 hov
 clear h hx hov hxr hdr
 unfold dv
 clear hfit
 generalize (d.map (Value.int .u8)).toArray = ds at *
 have HKA : Hid (Kept (fun _ => False) w (w.alloc (.cells ds 29))) := (Kept.refl _ w).alloc _
 have HDA : Hid ((w.alloc (.cells ds 29)).heap[w.heap.size]? = some (.cells ds 29 (0, 0))) := alloc_new _ _ rfl
 go_enter Tryz.func35, Tryz.ntmps35
 go_wp2
 generalize w.alloc (.cells ds 29) = wA at *
 have cA := HKA.out.cell HW0.out (fun f => f)
 refine wp_region_held_drew (S := fun w' => w'.cell? ⟨s, 0, none⟩ = some (.int .i64 σ.wd) ∧ w'.heap[w.heap.size]? = some (.cells ds 29 (0, 0))) (by kernel_rfl) ⟨cA, HDA.out⟩ (fun hHeld => ?_)
 refine tkg 0 (.agg ds) rfl (yields_row (by rfl) 29 _ rfl w.heap.size rfl 29 ds (0, 0) _ (fun w hSw => hSw.2) Tryz.underlying29 rfl hds) ?_
 try simp only [Act.put, tdy]
 iterate 4
  refine tkn (v := ?_) 1 rfl ?_ ?_; rotate_left 1
  ·intro w hSw; obtain ⟨s1, s2⟩ := hSw; go_simp; try with_reducible rfl
  try simp only [Act.put, tdy]
 refine wpAnyH_ready (rs := [5]) (by kernel_rfl) (by simp) ?_
 refine AllReadyH.cons rfl (fun K hK => ?_) .nil
 go_simp
 refine (HFI.out _).mono ?_
 rintro e w1 ⟨rfl, hk1⟩
 have hk1' : Kept (fun _ => False) wA w1 := (Kept.refl _ wA).drew.trans hk1
 have HKB := hid_of (HKA.out.trans hk1')
 have HDB := hid_of ((hk1'.block _ (heap_lt HDA.out) (fun f => f)).trans HDA.out)
 have cB := hk1'.cell cA (fun f => f)
 clear hk1 hk1'
 refine hK.out _ _ ⟨cB, HDB.out⟩ (fun hHeld => ?_)
 clear hK K
 try simp only [Act.put, tdy]
 refine tkp (v := ?_) 6 rfl ?_ ?_; rotate_left 1
 ·intro w hSw; go_simp; try with_reducible rfl
 try simp only [Act.put, tdy]
 refine wpAnyH_done (by kernel_rfl) ?_ _
 go_wp2_with (refine wpList_load_row rfl 29 _ rfl w.heap.size rfl 29 ds (0, 0) _ HDB.out Tryz.underlying29 rfl hds ?_)
 refine (HLAY.out w1 HKB.out).mono ?_
 rintro e w2 ⟨rfl, hk2⟩
 have HE : Hid (Kept (fun _ => False) w w2) := HKB.out.trans hk2
 clear hk2 HLAY
 go_wp2
 go_ret
 exact ⟨rfl, HE.out⟩
/-- A Store in order: its numbers stay small (at most n calls so far). -/
structure Sane (k n : Nat) (σ : Sg) : Prop where
 wd : σ.wd = k
 us : σ.us = total σ.es
 top : σ.us ≤ 67108864
 cp : σ.cp ≤ 67108864
 sp : 0 ≤ σ.sp ∧ σ.sp ≤ n
 gt : 0 ≤ σ.gt ∧ σ.gt ≤ n
 pt : 0 ≤ σ.pt ∧ σ.pt ≤ n
theorem sane_new (k : Nat) (cp : Int) (h : cp ≤ 67108864) : Sane k 0 (Sg.new k cp) := ⟨rfl, rfl, by show (0 : Int) ≤ 67108864; decide, h, ⟨Int.le_refl 0, Int.le_refl 0⟩, ⟨Int.le_refl 0, Int.le_refl 0⟩, ⟨Int.le_refl 0, Int.le_refl 0⟩⟩
theorem Sane.us0 {k n : Nat} {σ : Sg} (h : Sane k n σ) : 0 ≤ σ.us := by rw [h.us]; exact total_nonneg _
theorem used_total (σ : Sg) (d : List Int) (bv : Value) (xs : List Int) (st : Int) (born : Nat) (h : σ.us = total σ.es) : usedOf σ d xs = total (lays σ.es ⟨d, bv, xs, st, born⟩) := by
 rw [total_lays]
 unfold usedOf costAt
 rw [h]
 rfl
theorem Sane.put1 {k n : Nat} {σ : Sg} (h : Sane k n σ) : Sane k (n + 1) σ.put1 :=
 ⟨h.wd, h.us, h.top, h.cp, ⟨h.sp.1, by have := h.sp.2; show σ.sp ≤ _; omega⟩, ⟨h.gt.1, by have := h.gt.2; show σ.gt ≤ _; omega⟩, ⟨by have := h.pt.1; show 0 ≤ σ.pt + 1; omega, by have := h.pt.2; show σ.pt + 1 ≤ _; omega⟩⟩
theorem Sane.get1 {k n : Nat} {σ : Sg} (h : Sane k n σ) : Sane k (n + 1) σ.get1 :=
 ⟨h.wd, h.us, h.top, h.cp, ⟨h.sp.1, by have := h.sp.2; show σ.sp ≤ _; omega⟩, ⟨by have := h.gt.1; show 0 ≤ σ.gt + 1; omega, by have := h.gt.2; show σ.gt + 1 ≤ _; omega⟩, ⟨h.pt.1, by have := h.pt.2; show σ.pt ≤ _; omega⟩⟩
theorem Sane.lay {k n B : Nat} {σ σ' : Sg} {d xs : List Int} (h : Sane k n σ) (hl : LayOk B σ σ' d xs) (hov : usedOf σ d xs ≤ σ.cp) : Sane k (n + 1) σ' := by
 obtain ⟨bv, born, _, rfl⟩ := hl
 exact ⟨h.wd, used_total σ d bv xs _ born h.us, Int.le_trans hov h.cp, h.cp, ⟨by have := h.sp.1; show 0 ≤ σ.sp + 1; omega, by have := h.sp.2; show σ.sp + 1 ≤ _; omega⟩, ⟨h.gt.1, by have := h.gt.2; show σ.gt ≤ _; omega⟩, ⟨h.pt.1, by have := h.pt.2; show σ.pt ≤ _; omega⟩⟩
theorem Sane.evict {k n : Nat} {σ : Sg} (h : Sane k n σ) (d : List Int) (e : En) (hl : look σ.es d = some e) : Sane k n { σ with us := σ.us - ((e.xs.length : Int) + 32), es := drops σ.es d } := by
 have hc : costAt σ.es d = (e.xs.length : Int) + 32 := by unfold costAt; rw [hl]
 refine ⟨h.wd, ?_, ?_, h.cp, h.sp, h.gt, h.pt⟩
 ·show σ.us - ((e.xs.length : Int) + 32) = total (drops σ.es d)
  rw [total_drops, hc, h.us]
 ·have := h.top
  show σ.us - ((e.xs.length : Int) + 32) ≤ 67108864
  omega
theorem Sane.more {k n m : Nat} {σ : Sg} (h : Sane k n σ) (hm : n ≤ m) : Sane k m σ :=
 ⟨h.wd, h.us, h.top, h.cp, ⟨h.sp.1, by have := h.sp.2; omega⟩, ⟨h.gt.1, by have := h.gt.2; omega⟩, ⟨h.pt.1, by have := h.pt.2; omega⟩⟩
theorem Sane.limit {k n : Nat} {σ : Sg} (h : Sane k n σ) (c : Int) (hc : c ≤ 67108864) : Sane k n { σ with cp := c } := ⟨h.wd, h.us, h.top, hc, h.sp, h.gt, h.pt⟩
theorem Sane.gp {k n : Nat} {σ : Sg} (h : Sane k n σ) (j : Nat) : Sane k (n + j) (σ.gp j) :=
 ⟨h.wd, h.us, h.top, h.cp, ⟨h.sp.1, by have := h.sp.2; show σ.sp ≤ _; omega⟩, ⟨by have := h.gt.1; show 0 ≤ σ.gt + (j : Int); omega, by have := h.gt.2; show σ.gt + (j : Int) ≤ _; omega⟩, ⟨by have := h.pt.1; show 0 ≤ σ.pt + (j : Int); omega, by have := h.pt.2; show σ.pt + (j : Int) ≤ _; omega⟩⟩
theorem laid_found {B : Nat} {σ σ' : Sg} {d xs : List Int} (hl : LayOk B σ σ' d xs) : ∃ e, look σ'.es d = some e ∧ e.xs = xs := by
 obtain ⟨bv, born, _, rfl⟩ := hl
 obtain ⟨b, hb⟩ := look_lays σ.es ⟨d, bv, xs, σ.sp + 1, born⟩
 exact ⟨_, hb, rfl⟩
/-- How a Put leaves the Store. -/
structure After (w w' : World) (s : Nat) (mv mv' : Value) (k n : Nat) (σ σ' : Sg) : Prop where
 st : Stor w' s mv' σ'
 kp : Kept (Own s mv) w w'
 mv : mv' = mv ∨ ∃ r, mv' = .map (some r) ∧ w.heap.size ≤ r
 sane : Sane k n σ'
 fr : ∀ e ∈ σ'.es, e ∈ σ.es ∨ ∀ g, e.bv.ownBlock = some g → w.heap.size ≤ g
theorem lay_fr {B : Nat} {σ σ' : Sg} {d xs : List Int} (hl : LayOk B σ σ' d xs) (C : Nat) (hC : C ≤ B) : ∀ e ∈ σ'.es, e ∈ σ.es ∨ ∀ g, e.bv.ownBlock = some g → C ≤ g := by
 obtain ⟨bv, born, h1, rfl⟩ := hl
 intro e he
 rcases lays_mem _ _ _ he with h | ⟨b, rfl⟩
 ·exact .inl h
 ·exact .inr (fun g hg => Nat.le_trans hC (h1 g hg))
theorem kept_of_s {s : Nat} {mv : Value} {w w' : World} (h : Kept (fun k => k = s) w w') : Kept (Own s mv) w w' := h.mono (fun _ _ e => .inl e)
theorem kept_of_no {s : Nat} {mv : Value} {w w' : World} (h : Kept (fun _ => False) w w') : Kept (Own s mv) w w' := h.mono (fun _ _ e => e.elim)
theorem get_any (k n : Nat) (h1 : 1 ≤ k) (h2 : k ≤ 32) (hnn : n ≤ 1000000) (σ : Sg) (hS : Sane k n σ) (d : List Int) (hd : d.length = 32) :
  ∃ (q : Int) (xs : List Int), (q = 0 → frontOf k xs = d) ∧ ∀ (w : World) (s : Nat) (mv : Value), Stor w s mv σ → Laid w → s ≠ 0 → xs.length ≤ 1048576 ∧ (∀ x ∈ xs, 0 ≤ x ∧ x < 256) ∧
   Calls Tryz.prog 27 #[.pointer (some ⟨s, 0, none⟩), dv d] w fun e w' => ∃ v, e = .returned (.tuple #[v, .int .i64 q]) ∧ BIn w' v xs ∧ Stor w' s mv σ.get1 ∧ Kept (fun k => k = s) w w' := by
 have hg := hS.gt
 have hbl : ∀ e, look σ.es d = some e → ∀ (w : World) (s : Nat) (mv : Value), Stor w s mv σ → e.xs.length ≤ 1048576 ∧ ∀ x ∈ e.xs, 0 ≤ x ∧ x < 256 := fun e he w s mv hst => ⟨(hst.blob e (look_mem _ _ _ he).1).2.2.1, (hst.blob e (look_mem _ _ _ he).1).2.1⟩
 cases hl : look σ.es d with
 | none =>
  refine ⟨41, [], (fun h => absurd h (by decide)), fun w s mv hst hL hs0 => ⟨Nat.zero_le _, fun x hx => (by cases hx), (get_missing hst hL hs0 k hS.wd h1 h2 d hd hg.1 (by omega) hl).mono fun e w' ⟨he, hst', hk⟩ => ?_⟩⟩
  exact ⟨_, he, ⟨none, 0, rfl, Nat.le_refl _, .inl rfl⟩, hst', hk⟩
 | some e0 =>
  cases hwh : wholeB k σ.es d with
  | false =>
   refine ⟨42, [], (fun h => absurd h (by decide)), fun w s mv hst hL hs0 => ⟨Nat.zero_le _, fun x hx => (by cases hx), (get_corrupt hst hL hs0 k hS.wd h1 h2 d hd hg.1 (by omega) (by rw [hl]; rfl) hwh).mono fun e w' ⟨he, hst', hk⟩ => ?_⟩⟩
   exact ⟨_, he, ⟨none, 0, rfl, Nat.le_refl _, .inl rfl⟩, hst', hk⟩
  | true =>
   have hr : rawX σ.es d = e0.xs := by unfold rawX; rw [hl]
   refine ⟨0, e0.xs, fun _ => ?_, fun w s mv hst hL hs0 => ⟨(hbl e0 hl w s mv hst).1, (hbl e0 hl w s mv hst).2, (get_ok hst hL hs0 k hS.wd h1 h2 d hd hg.1 (by omega) hwh).mono fun e w' ⟨v, he, hb, _, hst', hk⟩ => ?_⟩⟩
   ·unfold wholeB at hwh
    rw [hl] at hwh
    exact of_decide_eq_true hwh
   ·rw [hr] at hb
    exact ⟨v, he, hb, hst', hk⟩
end Go.Proofs.YtjdbmjkidljhpaaGreatDoor

/-
  Cf1: Cevict, Cfound0, Cwith0, Cwith, Cfound, Cjoin.
-/
import Derived.Test.YtjdbmjkidljhpaaDoorCmega
import Derived.Deep.MidRow
import Derived.Maps.AppendAt
import Derived.Great.BuildSlice
namespace Go.Proofs.YtjdbmjkidljhpaaDoor
open Go.RowKit
set_option linter.unusedVariables false
set_option linter.unusedSimpArgs false
set_option maxRecDepth 100000

theorem limit_any {w : World} {s : Nat} {mv : Value} {σ : Sg} (h : Stor w s mv σ) (n : Int) :
    Calls Tryd.prog 14 #[.pointer (some ⟨s, 0, none⟩), .int .i64 n] w fun e w' => ∃ q σ', e = .returned (.int .i64 q) ∧ Stor w' s mv σ' ∧ (σ' = σ ∨ (0 ≤ n ∧ n ≤ 67108864 ∧ σ' = { σ with cp := n })) ∧ Kept (fun k => k = s) w w' := by
  have HM := hid_of (may_any n)
  have c1 : w.cell? ⟨s, 1, none⟩ = some (.int .i64 σ.cp) := h.cell 1
  have f1 := h.fz 1
  have HS := hid_of h
  by_cases hn : 0 ≤ n ∧ n ≤ 67108864
  · rw [decide_eq_true hn] at HM
    have HC := hid_of (h.set (σ' := { σ with cp := n }) 1 (.int .i64 n) rfl rfl)
    have HN := hid_of hn
    clear h hn
    go_enter Tryd.func14, Tryd.ntmps14
    go_wp2_with fail
    refine (HM.out _).mono ?_
    rintro e w1 ⟨rfl, hw1⟩
    have hw1' := hw1.symm
    clear hw1
    subst hw1'
    go_wp2
    go_ret
    exact ⟨_, _, rfl, HC.out.1, .inr ⟨HN.out.1, HN.out.2, rfl⟩, HC.out.2⟩
  · rw [decide_eq_false hn] at HM
    clear h hn
    go_enter Tryd.func14, Tryd.ntmps14
    go_wp2_with fail
    refine (HM.out _).mono ?_
    rintro e w1 ⟨rfl, hw1⟩
    have hw1' := hw1.symm
    clear hw1
    subst hw1'
    go_wp2
    go_ret
    exact ⟨_, σ, rfl, HS.out, .inl rfl, Kept.refl _ _⟩

/-- One thing less lies there. -/
def drops : List En → List Int → List En
  | [], _ => []
  | e :: es, d => if d = e.k then es else e :: drops es d
theorem drops_mem : ∀ (es : List En) (d : List Int) (e : En), e ∈ drops es d → e ∈ es
  | [], _, _, h => h
  | x :: es, d, e, h => by
    rw [drops] at h
    by_cases hk : d = x.k
    · rw [if_pos hk] at h
      exact List.mem_cons_of_mem _ h
    · rw [if_neg hk] at h
      rcases List.mem_cons.1 h with h | h
      · rw [h]; exact List.mem_cons_self ..
      · exact List.mem_cons_of_mem _ (drops_mem es d e h)
theorem look_drops : ∀ (es : List En) (d d' : List Int), d' ≠ d → look (drops es d) d' = look es d'
  | [], _, _, _ => rfl
  | x :: es, d, d', h => by
    rw [drops]
    by_cases hk : d = x.k
    · rw [if_pos hk, look, if_neg (fun e => h (e.trans hk.symm))]
    · rw [if_neg hk, look, look, look_drops es d d' h]
theorem ents_erase : ∀ (es : List En) (d : List Int) (i : Nat) (p : Nat × Value), lookI es d i = some p → ∃ j, p.1 = i + j ∧ (es.map En.ent).toArray.eraseIdxIfInBounds j = ((drops es d).map En.ent).toArray
  | [], d, i, p, h => by cases h
  | x :: es, d, i, p, h => by
    unfold lookI at h
    by_cases hk : d = x.k
    · rw [if_pos hk] at h
      cases h
      refine ⟨0, rfl, ?_⟩
      rw [drops, if_pos hk]
      apply Array.ext'
      simp
    · rw [if_neg hk] at h
      obtain ⟨j, h1, h3⟩ := ents_erase es d (i + 1) p h
      refine ⟨j + 1, by omega, ?_⟩
      rw [drops, if_neg hk]
      apply Array.ext'
      have := congrArg Array.toList h3
      simp at this ⊢
      exact this
theorem run_drop (w : World) (r clock : Nat) (es : List En) (hb : w.heap[r]? = some (.map (es.map En.ent).toArray clock)) (h : ∀ e ∈ es, e.k.length = 32) (d : List Int) (hd : d.length = 32) (hl : (look es d).isSome = true) (ty : TypeId) :
    (Builtin.delete_ #[59, 28] ty #[.map (some r), dv d]).run Tryd.prog w = .ok (.tuple #[]) (World.over w r (.map ((drops es d).map En.ent).toArray clock)) := by
  have hs := look_some es d 0
  unfold Builtin.delete_
  simp only [Sem.run_bind, run_underlying Tryd.underlying59, Result.andThen_ok, got hb, check_digest w _ 9998 d hd, List.getElem?_toArray, List.getElem?_cons_zero, List.getElem?_cons_succ]
  rw [run_find w d hd es h]
  cases h1 : lookI es d 0 with
  | none =>
    rw [h1] at hs
    cases h2 : look es d with
    | none => rw [h2] at hl; cases hl
    | some e => rw [h2] at hs; cases hs
  | some p =>
    obtain ⟨j, e1, e3⟩ := ents_erase es d 0 p h1
    obtain ⟨i, v⟩ := p
    have hi : i = j := by simpa using e1
    subst hi
    simp only [Result.andThen_ok]
    rw [Sem.run_bind, set_got _ hb, ← e3]
    rfl
theorem drops_sub : ∀ (es : List En) (d : List Int), (drops es d).Sublist es
  | [], _ => List.Sublist.slnil
  | e :: es, d => by
    unfold drops
    by_cases h : d = e.k
    · rw [if_pos h]; exact List.sublist_cons_self _ _
    · rw [if_neg h]; exact (drops_sub es d).cons_cons _
theorem drops_stampd {clock : Nat} {es : List En} {d : List Int} (h : Stampd clock es) : Stampd clock (drops es d) := ⟨fun b hb => h.1 b (((drops_sub es d).map En.born).subset hb), h.2.1.sublist ((drops_sub es d).map En.born), h.2.2.sublist ((drops_sub es d).map En.k)⟩
theorem Stor.drop {W : World} {s r clock : Nat} {σ : Sg} (h : Stor W s (.map (some r)) σ) (hb : W.heap[r]? = some (.map (σ.es.map En.ent).toArray clock)) (hrs : r ≠ s ∧ Stampd clock σ.es) (d : List Int) :
    Stor (World.over W r (.map ((drops σ.es d).map En.ent).toArray clock)) s (.map (some r)) { σ with es := drops σ.es d } := by
  have hkp := kept_over W r (.map ((drops σ.es d).map En.ent).toArray clock)
  refine ⟨(hkp.block s h.lt (fun e => hrs.1 e.symm)).trans h.blk, .inr ⟨r, clock, rfl, over_same W r _ (heap_lt hb), hrs.1, drops_stampd hrs.2⟩, fun x hxm => h.key x (drops_mem _ _ _ hxm), fun x hxm => ?_⟩
  obtain ⟨a1, a2, a3, a4⟩ := h.blob x (drops_mem _ _ _ hxm)
  exact ⟨a1.kept2 hkp (fun hx g hg e => by subst e; exact not_map a1 hx hb hg), a2, a3, a4⟩
theorem field1 (W : World) (a b : Value) : (Instr.field 65 (.agg #[a, b]) 1).run Tryd.prog W = .ok b W := by kernel_rfl
/-- The stamp of what lies there. -/
def stampOf (es : List En) (d : List Int) : Int := match look es d with | some e => e.st | none => 0
theorem Stor.shape2 {w : World} {s : Nat} {mv : Value} {σ : Sg} (h : Stor w s mv σ) (d : List Int) : ∃ ao n c, lookV σ.es d = .agg #[.slice ao n c, .int .i64 (stampOf σ.es d)] ∧ ∀ e, look σ.es d = some e → n = e.xs.length ∧ e.xs.length ≤ 1048576 := by
  unfold lookV stampOf
  cases hl : look σ.es d with
  | none => exact ⟨none, 0, 0, rfl, fun e he => by cases he⟩
  | some e =>
    obtain ⟨ao, c, hb, _⟩ := (h.blob e (look_mem _ _ _ hl).1).1
    refine ⟨ao, e.xs.length, c, by show Value.agg #[e.bv, .int .i64 e.st] = _; rw [hb], fun e' he => ?_⟩
    cases he
    exact ⟨rfl, (h.blob e (look_mem _ _ _ hl).1).2.2.1⟩
set_option maxHeartbeats 4000000 in
theorem stamp_any {w : World} {s : Nat} {mv : Value} {σ : Sg} (h : Stor w s mv σ) (d : List Int) (hd : d.length = 32) :
    Calls Tryd.prog 36 #[.pointer (some ⟨s, 0, none⟩), dv d] w fun e w' => e = .returned (.int .i64 (stampOf σ.es d)) ∧ Kept (fun _ => False) w w' := by
  obtain ⟨ao, n, c, hV, _⟩ := h.shape2 d
  have hds := size28_of d hd
  have HL2 : Hid (∀ W, Kept (fun _ => False) w W → (Instr.lookup 59 mv (.agg (d.map (Value.int .u8)).toArray) false).run Tryd.prog W = .ok (.agg #[.slice ao n c, .int .i64 (stampOf σ.es d)]) W) := fun W hW => by
    have := h.lookw d hd false W hW
    rw [hV] at this
    exact this
  have HM : Hid (w.cell? ⟨s, 2, none⟩ = some mv) := h.cell 2
  clear h hV
  unfold dv
  generalize stampOf σ.es d = st at *
  generalize (d.map (Value.int .u8)).toArray = ds at *
  have HS : Hid (∀ W, Kept (fun _ => False) (w.alloc (.cells ds 28)) W → W.cell? ⟨s, 2, none⟩ = some mv ∧ W.heap[w.heap.size]? = some (.cells ds 28 (0, 0)) ∧ (Instr.lookup 59 mv (.agg ds) false).run Tryd.prog W = .ok (.agg #[.slice ao n c, .int .i64 st]) W) := fun W hW =>
    ⟨hW.cell ((Kept.refl (fun _ => False) w).alloc _ |>.cell HM.out (fun f => f)) (fun f => f), (hW.block _ (by simp) (fun f => f)).trans (alloc_new _ _ rfl), HL2.out W (((Kept.refl (fun _ => False) w).alloc _).trans hW)⟩
  have HKA : Hid (Kept (fun _ => False) w (w.alloc (.cells ds 28))) := (Kept.refl _ w).alloc _
  have hF1 : ∀ W : World, (Instr.field 65 (.agg #[.slice ao n c, .int .i64 st]) 1).run Tryd.prog W = .ok (.int .i64 st) W := fun W => field1 W _ _
  go_enter Tryd.func36, Tryd.ntmps36
  go_wp2
  generalize w.alloc (.cells ds 28) = wA at *
  refine wp_region_held_drew (S := fun w' => w'.cell? ⟨s, 2, none⟩ = some mv ∧ w'.heap[w.heap.size]? = some (.cells ds 28 (0, 0)) ∧ (Instr.lookup 59 mv (.agg ds) false).run Tryd.prog w' = .ok (.agg #[.slice ao n c, .int .i64 st]) w') (by kernel_rfl) (HS.out _ ((Kept.refl _ wA).drew)) (fun hHeld => ?_)
  refine wpAnyH_take (i := 0) (v := ?_) rfl (by kernel_rfl) (by kernel_rfl) (by kernel_rfl) (fun _ _ _ h => h) (Or.inl ⟨by rfl, ?_⟩) (by assumption) ?_
  rotate_left 1
  · intro w hSw
    obtain ⟨s1, s2, s3⟩ := hSw
    go_simp
    try with_reducible rfl
  try simp only [Act.put, List.getElem_toArray, List.getElem_cons_zero, List.getElem_cons_succ, List.setIfInBounds_toArray, List.set_cons_zero, List.set_cons_succ]
  refine wpAnyH_take (i := 1) (v := ?_) rfl (by kernel_rfl) (by kernel_rfl) (by kernel_rfl) (fun _ _ _ h => h) (Or.inl ⟨by rfl, ?_⟩) (by assumption) ?_
  rotate_left 1
  · intro w hSw
    obtain ⟨s1, s2, s3⟩ := hSw
    go_simp
    try with_reducible rfl
  try simp only [Act.put, List.getElem_toArray, List.getElem_cons_zero, List.getElem_cons_succ, List.setIfInBounds_toArray, List.set_cons_zero, List.set_cons_succ]
  refine wpAnyH_take (i := 2) (v := ?_) rfl (by kernel_rfl) (by kernel_rfl) (by kernel_rfl) (fun _ _ _ h => h) (Or.inl ⟨by rfl, ?_⟩) (by assumption) ?_
  rotate_left 1
  · intro w hSw
    obtain ⟨s1, s2, s3⟩ := hSw
    go_simp
    try with_reducible rfl
  try simp only [Act.put, List.getElem_toArray, List.getElem_cons_zero, List.getElem_cons_succ, List.setIfInBounds_toArray, List.set_cons_zero, List.set_cons_succ]
  refine wpAnyH_take (i := 3) (v := ?_) rfl (by kernel_rfl) (by kernel_rfl) (by kernel_rfl) (fun _ _ _ h => h) (Or.inl ⟨by rfl, ?_⟩) (by assumption) ?_
  rotate_left 1
  · intro w hSw
    obtain ⟨s1, s2, s3⟩ := hSw
    go_simp
    try with_reducible rfl
  try simp only [Act.put, List.getElem_toArray, List.getElem_cons_zero, List.getElem_cons_succ, List.setIfInBounds_toArray, List.set_cons_zero, List.set_cons_succ]
  refine wpAnyH_take (i := 4) (v := .agg ds) rfl (by kernel_rfl) (by kernel_rfl) (by kernel_rfl) (fun _ _ _ h => h) (yields_row (by rfl) 28 _ rfl w.heap.size rfl 28 ds (0, 0) _ (fun w hSw => hSw.2.1) Tryd.underlying28 rfl hds) (by assumption) ?_
  try simp only [Act.put, List.getElem_toArray, List.getElem_cons_zero, List.getElem_cons_succ, List.setIfInBounds_toArray, List.set_cons_zero, List.set_cons_succ]
  refine wpAnyH_take (i := 5) (v := ?_) rfl (by kernel_rfl) (by kernel_rfl) (by kernel_rfl) (fun _ _ _ h => h) (Or.inl ⟨by rfl, ?_⟩) (by assumption) ?_
  rotate_left 1
  · intro w hSw
    obtain ⟨s1, s2, s3⟩ := hSw
    go_simp
    try with_reducible rfl
  try simp only [Act.put, List.getElem_toArray, List.getElem_cons_zero, List.getElem_cons_succ, List.setIfInBounds_toArray, List.set_cons_zero, List.set_cons_succ]
  refine wpAnyH_take (i := 6) (v := ?_) rfl (by kernel_rfl) (by kernel_rfl) (by kernel_rfl) (fun _ _ _ h => h) (Or.inl ⟨by rfl, ?_⟩) (by assumption) ?_
  rotate_left 1
  · intro w hSw
    obtain ⟨s1, s2, s3⟩ := hSw
    go_simp
    try with_reducible rfl
  try simp only [Act.put, List.getElem_toArray, List.getElem_cons_zero, List.getElem_cons_succ, List.setIfInBounds_toArray, List.set_cons_zero, List.set_cons_succ]
  refine wpAnyH_take (i := 7) (v := ?_) rfl (by kernel_rfl) (by kernel_rfl) (by kernel_rfl) (fun _ _ _ h => h) (Or.inl ⟨by rfl, ?_⟩) (by assumption) ?_
  rotate_left 1
  · intro w hSw
    obtain ⟨s1, s2, s3⟩ := hSw
    go_simp
    try with_reducible rfl
  try simp only [Act.put, List.getElem_toArray, List.getElem_cons_zero, List.getElem_cons_succ, List.setIfInBounds_toArray, List.set_cons_zero, List.set_cons_succ]
  refine wpAnyH_done (by kernel_rfl) ?_ _
  go_wp2
  go_ret
  exact ⟨rfl, HKA.out.drew⟩
set_option maxHeartbeats 4000000 in
theorem evict_none {w : World} {s : Nat} {mv : Value} {σ : Sg} (h : Stor w s mv σ) (d : List Int) (hd : d.length = 32) (hl : look σ.es d = none) :
    Calls Tryd.prog 13 #[.pointer (some ⟨s, 0, none⟩), dv d] w fun e w' => e = .returned (.bool false) ∧ Kept (fun _ => False) w w' := by
  obtain ⟨ao, n, c, st, hV⟩ := h.shape d
  have hds := size28_of d hd
  have HL2 : Hid (∀ W, Kept (fun _ => False) w W → (Instr.lookup 59 mv (.agg (d.map (Value.int .u8)).toArray) true).run Tryd.prog W = .ok (.tuple #[.agg #[.slice ao n c, .int .i64 st], .bool false]) W) := fun W hW => by
    have := h.lookw d hd true W hW
    rw [hV, hl] at this
    exact this
  have HM : Hid (w.cell? ⟨s, 2, none⟩ = some mv) := h.cell 2
  clear h hV hl
  unfold dv
  generalize (d.map (Value.int .u8)).toArray = ds at *
  have HS : Hid (∀ W, Kept (fun _ => False) (w.alloc (.cells ds 28)) W → W.cell? ⟨s, 2, none⟩ = some mv ∧ W.heap[w.heap.size]? = some (.cells ds 28 (0, 0)) ∧ (Instr.lookup 59 mv (.agg ds) true).run Tryd.prog W = .ok (.tuple #[.agg #[.slice ao n c, .int .i64 st], .bool false]) W) := fun W hW =>
    ⟨hW.cell ((Kept.refl (fun _ => False) w).alloc _ |>.cell HM.out (fun f => f)) (fun f => f), (hW.block _ (by simp) (fun f => f)).trans (alloc_new _ _ rfl), HL2.out W (((Kept.refl (fun _ => False) w).alloc _).trans hW)⟩
  have HKA : Hid (Kept (fun _ => False) w (w.alloc (.cells ds 28))) := (Kept.refl _ w).alloc _
  go_enter Tryd.func13, Tryd.ntmps13
  go_wp2
  generalize w.alloc (.cells ds 28) = wA at *
  refine wp_region_held_drew (S := fun w' => w'.cell? ⟨s, 2, none⟩ = some mv ∧ w'.heap[w.heap.size]? = some (.cells ds 28 (0, 0)) ∧ (Instr.lookup 59 mv (.agg ds) true).run Tryd.prog w' = .ok (.tuple #[.agg #[.slice ao n c, .int .i64 st], .bool false]) w') (by kernel_rfl) (HS.out _ ((Kept.refl _ wA).drew)) (fun hHeld => ?_)
  refine wpAnyH_take (i := 0) (v := ?_) rfl (by kernel_rfl) (by kernel_rfl) (by kernel_rfl) (fun _ _ _ h => h) (Or.inl ⟨by rfl, ?_⟩) (by assumption) ?_
  rotate_left 1
  · intro w hSw
    obtain ⟨s1, s2, s3⟩ := hSw
    go_simp
    try with_reducible rfl
  try simp only [Act.put, List.getElem_toArray, List.getElem_cons_zero, List.getElem_cons_succ, List.setIfInBounds_toArray, List.set_cons_zero, List.set_cons_succ]
  refine wpAnyH_take (i := 1) (v := ?_) rfl (by kernel_rfl) (by kernel_rfl) (by kernel_rfl) (fun _ _ _ h => h) (Or.inl ⟨by rfl, ?_⟩) (by assumption) ?_
  rotate_left 1
  · intro w hSw
    obtain ⟨s1, s2, s3⟩ := hSw
    go_simp
    try with_reducible rfl
  try simp only [Act.put, List.getElem_toArray, List.getElem_cons_zero, List.getElem_cons_succ, List.setIfInBounds_toArray, List.set_cons_zero, List.set_cons_succ]
  refine wpAnyH_take (i := 2) (v := ?_) rfl (by kernel_rfl) (by kernel_rfl) (by kernel_rfl) (fun _ _ _ h => h) (Or.inl ⟨by rfl, ?_⟩) (by assumption) ?_
  rotate_left 1
  · intro w hSw
    obtain ⟨s1, s2, s3⟩ := hSw
    go_simp
    try with_reducible rfl
  try simp only [Act.put, List.getElem_toArray, List.getElem_cons_zero, List.getElem_cons_succ, List.setIfInBounds_toArray, List.set_cons_zero, List.set_cons_succ]
  refine wpAnyH_take (i := 3) (v := ?_) rfl (by kernel_rfl) (by kernel_rfl) (by kernel_rfl) (fun _ _ _ h => h) (Or.inl ⟨by rfl, ?_⟩) (by assumption) ?_
  rotate_left 1
  · intro w hSw
    obtain ⟨s1, s2, s3⟩ := hSw
    go_simp
    try with_reducible rfl
  try simp only [Act.put, List.getElem_toArray, List.getElem_cons_zero, List.getElem_cons_succ, List.setIfInBounds_toArray, List.set_cons_zero, List.set_cons_succ]
  refine wpAnyH_take (i := 4) (v := .agg ds) rfl (by kernel_rfl) (by kernel_rfl) (by kernel_rfl) (fun _ _ _ h => h) (yields_row (by rfl) 28 _ rfl w.heap.size rfl 28 ds (0, 0) _ (fun w hSw => hSw.2.1) Tryd.underlying28 rfl hds) (by assumption) ?_
  try simp only [Act.put, List.getElem_toArray, List.getElem_cons_zero, List.getElem_cons_succ, List.setIfInBounds_toArray, List.set_cons_zero, List.set_cons_succ]
  refine wpAnyH_take (i := 5) (v := ?_) rfl (by kernel_rfl) (by kernel_rfl) (by kernel_rfl) (fun _ _ _ h => h) (Or.inl ⟨by rfl, ?_⟩) (by assumption) ?_
  rotate_left 1
  · intro w hSw
    obtain ⟨s1, s2, s3⟩ := hSw
    go_simp
    try with_reducible rfl
  try simp only [Act.put, List.getElem_toArray, List.getElem_cons_zero, List.getElem_cons_succ, List.setIfInBounds_toArray, List.set_cons_zero, List.set_cons_succ]
  refine wpAnyH_take (i := 6) (v := ?_) rfl (by kernel_rfl) (by kernel_rfl) (by kernel_rfl) (fun _ _ _ h => h) (Or.inl ⟨by rfl, ?_⟩) (by assumption) ?_
  rotate_left 1
  · intro w hSw
    obtain ⟨s1, s2, s3⟩ := hSw
    go_simp
    try with_reducible rfl
  try simp only [Act.put, List.getElem_toArray, List.getElem_cons_zero, List.getElem_cons_succ, List.setIfInBounds_toArray, List.set_cons_zero, List.set_cons_succ]
  refine wpAnyH_take (i := 7) (v := ?_) rfl (by kernel_rfl) (by kernel_rfl) (by kernel_rfl) (fun _ _ _ h => h) (Or.inl ⟨by rfl, ?_⟩) (by assumption) ?_
  rotate_left 1
  · intro w hSw
    obtain ⟨s1, s2, s3⟩ := hSw
    go_simp
    try with_reducible rfl
  try simp only [Act.put, List.getElem_toArray, List.getElem_cons_zero, List.getElem_cons_succ, List.setIfInBounds_toArray, List.set_cons_zero, List.set_cons_succ]
  refine wpAnyH_take (i := 8) (v := ?_) rfl (by kernel_rfl) (by kernel_rfl) (by kernel_rfl) (fun _ _ _ h => h) (Or.inl ⟨by rfl, ?_⟩) (by assumption) ?_
  rotate_left 1
  · intro w hSw
    obtain ⟨s1, s2, s3⟩ := hSw
    go_simp
    try with_reducible rfl
  try simp only [Act.put, List.getElem_toArray, List.getElem_cons_zero, List.getElem_cons_succ, List.setIfInBounds_toArray, List.set_cons_zero, List.set_cons_succ]
  refine wpAnyH_ready (rs := [9]) (by kernel_rfl) (by simp) ?_
  refine AllReadyH.cons rfl (fun K hK => ?_) AllReadyH.nil
  go_simp
  refine hK.out _ _ (HS.out _ (((Kept.refl _ wA).alloc _).drew)) (fun hHeld => ?_)
  clear hK K
  try simp only [Act.put, List.getElem_toArray, List.getElem_cons_zero, List.getElem_cons_succ, List.setIfInBounds_toArray, List.set_cons_zero, List.set_cons_succ]
  refine wpAnyH_ready (rs := [10]) (by kernel_rfl) (by simp) ?_
  refine AllReadyH.cons rfl (fun K hK => ?_) AllReadyH.nil
  go_simp
  refine hK.out _ _ (HS.out _ (((Kept.refl _ wA).alloc _).drew)) (fun hHeld => ?_)
  clear hK K
  try simp only [Act.put, List.getElem_toArray, List.getElem_cons_zero, List.getElem_cons_succ, List.setIfInBounds_toArray, List.set_cons_zero, List.set_cons_succ]
  refine wpAnyH_take (i := 11) (v := ?_) rfl (by kernel_rfl) (by kernel_rfl) (by kernel_rfl) (fun _ _ _ h => h) (Or.inl ⟨by rfl, ?_⟩) (by assumption) ?_
  rotate_left 1
  · intro w hSw
    obtain ⟨s1, s2, s3⟩ := hSw
    go_simp
    try with_reducible rfl
  try simp only [Act.put, List.getElem_toArray, List.getElem_cons_zero, List.getElem_cons_succ, List.setIfInBounds_toArray, List.set_cons_zero, List.set_cons_succ]
  refine wpAnyH_done (by kernel_rfl) ?_ _
  go_wp2
  go_ret
  exact ⟨rfl, (HKA.out.alloc _).drew⟩
set_option maxHeartbeats 4000000 in
theorem evict_some {w : World} {s : Nat} {mv : Value} {σ : Sg} (h : Stor w s mv σ) (d : List Int) (hd : d.length = 32) (e : En) (hl : look σ.es d = some e) (hu : -1099511627776 ≤ σ.us) (hu2 : σ.us ≤ 1099511627776) :
    Calls Tryd.prog 13 #[.pointer (some ⟨s, 0, none⟩), dv d] w fun f w' => f = .returned (.bool true) ∧ Stor w' s mv { σ with us := σ.us - ((e.xs.length : Int) + 32), es := drops σ.es d } ∧ Kept (Own s mv) w w' := by
  obtain ⟨ao, n, c, hV, hnn⟩ := h.shape2 d
  obtain ⟨hn1, hn2⟩ := hnn e hl
  rw [← hn1] at hn2 ⊢
  clear hn1
  have hds := size28_of d hd
  have HL2 : Hid (∀ W, Kept (fun _ => False) w W → (Instr.lookup 59 mv (.agg (d.map (Value.int .u8)).toArray) true).run Tryd.prog W = .ok (.tuple #[.agg #[.slice ao n c, .int .i64 (stampOf σ.es d)], .bool true]) W) := fun W hW => by
    have := h.lookw d hd true W hW
    rw [hV, hl] at this
    exact this
  have HM : Hid (w.cell? ⟨s, 2, none⟩ = some mv) := h.cell 2
  obtain ⟨r, clock, hmv, hr, hrs⟩ : ∃ r clock, mv = .map (some r) ∧ w.heap[r]? = some (.map (σ.es.map En.ent).toArray clock) ∧ (r ≠ s ∧ Stampd clock σ.es) := by
    rcases h.map with ⟨_, h1⟩ | h1
    · rw [h1] at hl; cases hl
    · exact h1
  subst hmv
  have hsl := h.lt
  have hrl := heap_lt hr
  have hwp : IntKind.i64.wrap (σ.us - ((n : Int) + 32)) = σ.us - ((n : Int) + 32) := by rw [IntKind.wrap_i64]; omega
  have HDEL : Hid (∀ W : World, ∀ clock, W.heap[r]? = some (.map (σ.es.map En.ent).toArray clock) → ∀ ty, (Builtin.delete_ #[59, 28] ty #[.map (some r), .agg (d.map (Value.int .u8)).toArray]).run Tryd.prog W = .ok (.tuple #[]) (World.over W r (.map ((drops σ.es d).map En.ent).toArray clock))) := fun W clock hW ty => run_drop W r clock σ.es hW (fun x hx => (h.key x hx).1) d hd (by rw [hl]; rfl) ty
  have HST := hid_of h
  have HLE := hid_of hn2
  have HR := hid_of hr
  clear h hV hl hnn hr
  unfold dv
  generalize stampOf σ.es d = st at *
  generalize (d.map (Value.int .u8)).toArray = ds at *
  have HS : Hid (∀ W, Kept (fun _ => False) (w.alloc (.cells ds 28)) W → W.cell? ⟨s, 2, none⟩ = some (.map (some r)) ∧ W.heap[w.heap.size]? = some (.cells ds 28 (0, 0)) ∧ (Instr.lookup 59 (.map (some r)) (.agg ds) true).run Tryd.prog W = .ok (.tuple #[.agg #[.slice ao n c, .int .i64 st], .bool true]) W) := fun W hW =>
    ⟨hW.cell ((Kept.refl (fun _ => False) w).alloc _ |>.cell HM.out (fun f => f)) (fun f => f), (hW.block _ (by simp) (fun f => f)).trans (alloc_new _ _ rfl), HL2.out W (((Kept.refl (fun _ => False) w).alloc _).trans hW)⟩
  have HKA : Hid (Kept (fun _ => False) w (w.alloc (.cells ds 28))) := (Kept.refl _ w).alloc _
  go_enter Tryd.func13, Tryd.ntmps13
  go_wp2
  generalize w.alloc (.cells ds 28) = wA at *
  refine wp_region_held_drew (S := fun w' => w'.cell? ⟨s, 2, none⟩ = some (.map (some r)) ∧ w'.heap[w.heap.size]? = some (.cells ds 28 (0, 0)) ∧ (Instr.lookup 59 (.map (some r)) (.agg ds) true).run Tryd.prog w' = .ok (.tuple #[.agg #[.slice ao n c, .int .i64 st], .bool true]) w') (by kernel_rfl) (HS.out _ ((Kept.refl _ wA).drew)) (fun hHeld => ?_)
  refine wpAnyH_take (i := 0) (v := ?_) rfl (by kernel_rfl) (by kernel_rfl) (by kernel_rfl) (fun _ _ _ h => h) (Or.inl ⟨by rfl, ?_⟩) (by assumption) ?_
  rotate_left 1
  · intro w hSw
    obtain ⟨s1, s2, s3⟩ := hSw
    go_simp
    try with_reducible rfl
  try simp only [Act.put, List.getElem_toArray, List.getElem_cons_zero, List.getElem_cons_succ, List.setIfInBounds_toArray, List.set_cons_zero, List.set_cons_succ]
  refine wpAnyH_take (i := 1) (v := ?_) rfl (by kernel_rfl) (by kernel_rfl) (by kernel_rfl) (fun _ _ _ h => h) (Or.inl ⟨by rfl, ?_⟩) (by assumption) ?_
  rotate_left 1
  · intro w hSw
    obtain ⟨s1, s2, s3⟩ := hSw
    go_simp
    try with_reducible rfl
  try simp only [Act.put, List.getElem_toArray, List.getElem_cons_zero, List.getElem_cons_succ, List.setIfInBounds_toArray, List.set_cons_zero, List.set_cons_succ]
  refine wpAnyH_take (i := 2) (v := ?_) rfl (by kernel_rfl) (by kernel_rfl) (by kernel_rfl) (fun _ _ _ h => h) (Or.inl ⟨by rfl, ?_⟩) (by assumption) ?_
  rotate_left 1
  · intro w hSw
    obtain ⟨s1, s2, s3⟩ := hSw
    go_simp
    try with_reducible rfl
  try simp only [Act.put, List.getElem_toArray, List.getElem_cons_zero, List.getElem_cons_succ, List.setIfInBounds_toArray, List.set_cons_zero, List.set_cons_succ]
  refine wpAnyH_take (i := 3) (v := ?_) rfl (by kernel_rfl) (by kernel_rfl) (by kernel_rfl) (fun _ _ _ h => h) (Or.inl ⟨by rfl, ?_⟩) (by assumption) ?_
  rotate_left 1
  · intro w hSw
    obtain ⟨s1, s2, s3⟩ := hSw
    go_simp
    try with_reducible rfl
  try simp only [Act.put, List.getElem_toArray, List.getElem_cons_zero, List.getElem_cons_succ, List.setIfInBounds_toArray, List.set_cons_zero, List.set_cons_succ]
  refine wpAnyH_take (i := 4) (v := .agg ds) rfl (by kernel_rfl) (by kernel_rfl) (by kernel_rfl) (fun _ _ _ h => h) (yields_row (by rfl) 28 _ rfl w.heap.size rfl 28 ds (0, 0) _ (fun w hSw => hSw.2.1) Tryd.underlying28 rfl hds) (by assumption) ?_
  try simp only [Act.put, List.getElem_toArray, List.getElem_cons_zero, List.getElem_cons_succ, List.setIfInBounds_toArray, List.set_cons_zero, List.set_cons_succ]
  refine wpAnyH_take (i := 5) (v := ?_) rfl (by kernel_rfl) (by kernel_rfl) (by kernel_rfl) (fun _ _ _ h => h) (Or.inl ⟨by rfl, ?_⟩) (by assumption) ?_
  rotate_left 1
  · intro w hSw
    obtain ⟨s1, s2, s3⟩ := hSw
    go_simp
    try with_reducible rfl
  try simp only [Act.put, List.getElem_toArray, List.getElem_cons_zero, List.getElem_cons_succ, List.setIfInBounds_toArray, List.set_cons_zero, List.set_cons_succ]
  refine wpAnyH_take (i := 6) (v := ?_) rfl (by kernel_rfl) (by kernel_rfl) (by kernel_rfl) (fun _ _ _ h => h) (Or.inl ⟨by rfl, ?_⟩) (by assumption) ?_
  rotate_left 1
  · intro w hSw
    obtain ⟨s1, s2, s3⟩ := hSw
    go_simp
    try with_reducible rfl
  try simp only [Act.put, List.getElem_toArray, List.getElem_cons_zero, List.getElem_cons_succ, List.setIfInBounds_toArray, List.set_cons_zero, List.set_cons_succ]
  refine wpAnyH_take (i := 7) (v := ?_) rfl (by kernel_rfl) (by kernel_rfl) (by kernel_rfl) (fun _ _ _ h => h) (Or.inl ⟨by rfl, ?_⟩) (by assumption) ?_
  rotate_left 1
  · intro w hSw
    obtain ⟨s1, s2, s3⟩ := hSw
    go_simp
    try with_reducible rfl
  try simp only [Act.put, List.getElem_toArray, List.getElem_cons_zero, List.getElem_cons_succ, List.setIfInBounds_toArray, List.set_cons_zero, List.set_cons_succ]
  refine wpAnyH_take (i := 8) (v := ?_) rfl (by kernel_rfl) (by kernel_rfl) (by kernel_rfl) (fun _ _ _ h => h) (Or.inl ⟨by rfl, ?_⟩) (by assumption) ?_
  rotate_left 1
  · intro w hSw
    obtain ⟨s1, s2, s3⟩ := hSw
    go_simp
    try with_reducible rfl
  try simp only [Act.put, List.getElem_toArray, List.getElem_cons_zero, List.getElem_cons_succ, List.setIfInBounds_toArray, List.set_cons_zero, List.set_cons_succ]
  refine wpAnyH_ready (rs := [9]) (by kernel_rfl) (by simp) ?_
  refine AllReadyH.cons rfl (fun K hK => ?_) AllReadyH.nil
  go_simp
  refine hK.out _ _ (HS.out _ (((Kept.refl _ wA).alloc _).drew)) (fun hHeld => ?_)
  clear hK K
  try simp only [Act.put, List.getElem_toArray, List.getElem_cons_zero, List.getElem_cons_succ, List.setIfInBounds_toArray, List.set_cons_zero, List.set_cons_succ]
  refine wpAnyH_ready (rs := [10]) (by kernel_rfl) (by simp) ?_
  refine AllReadyH.cons rfl (fun K hK => ?_) AllReadyH.nil
  go_simp
  refine hK.out _ _ (HS.out _ (((Kept.refl _ wA).alloc _).drew)) (fun hHeld => ?_)
  clear hK K
  try simp only [Act.put, List.getElem_toArray, List.getElem_cons_zero, List.getElem_cons_succ, List.setIfInBounds_toArray, List.set_cons_zero, List.set_cons_succ]
  refine wpAnyH_take (i := 11) (v := ?_) rfl (by kernel_rfl) (by kernel_rfl) (by kernel_rfl) (fun _ _ _ h => h) (Or.inl ⟨by rfl, ?_⟩) (by assumption) ?_
  rotate_left 1
  · intro w hSw
    obtain ⟨s1, s2, s3⟩ := hSw
    go_simp
    try with_reducible rfl
  try simp only [Act.put, List.getElem_toArray, List.getElem_cons_zero, List.getElem_cons_succ, List.setIfInBounds_toArray, List.set_cons_zero, List.set_cons_succ]
  refine wpAnyH_done (by kernel_rfl) ?_ _
  have HKC : Hid (Kept (fun _ => False) w (wA.alloc (.cells #[.slice ao n c, .int .i64 st] 65)).drew) := (HKA.out.alloc _).drew
  have HC5 : Hid ((wA.alloc (.cells #[.slice ao n c, .int .i64 st] 65)).drew.cell? ⟨wA.heap.size, 0, none⟩ = some (.slice ao n c)) := (cell_block _ _ _ _ _ _ (alloc_new wA _ rfl)).trans rfl
  have HD3 : Hid ((wA.alloc (.cells #[.slice ao n c, .int .i64 st] 65)).drew.heap[w.heap.size]? = some (.cells ds 28 (0, 0))) := alloc_old (HS.out wA (Kept.refl _ _)).2.1
  have hb5l : w.heap.size ≤ wA.heap.size := HKA.out.size
  have hb5k : w.heap.size < wA.heap.size := heap_lt (HS.out wA (Kept.refl _ _)).2.1
  generalize wA.heap.size = b5 at *
  generalize (wA.alloc (.cells #[.slice ao n c, .int .i64 st] 65)).drew = wC at *
  clear HS HKA HL2
  have HSC := hid_of (HST.out.kept HKC.out (fun _ _ f => f))
  have HRC := hid_of ((HKC.out.block r hrl (fun f => f)).trans HR.out)
  have HU : Hid (∀ W, Stor W s (.map (some r)) σ → W.cell? ⟨s, 3, none⟩ = some (.int .i64 σ.us) ∧ W.frozen? ⟨s, 3, none⟩ = false) := fun W hW => ⟨hW.cell 3, hW.fz 3⟩
  have HSET : Hid (∀ W, Stor W s (.map (some r)) σ → Stor (W.setCell ⟨s, 3, none⟩ (.int .i64 (σ.us - ((n : Int) + 32)))) s (.map (some r)) { σ with us := σ.us - ((n : Int) + 32) } ∧ Kept (fun k => k = s) W (W.setCell ⟨s, 3, none⟩ (.int .i64 (σ.us - ((n : Int) + 32))))) := fun W hW => hW.set 3 _ rfl rfl
  obtain ⟨hu3, hf3⟩ := HU.out wC.drew (HSC.out.kept (Kept.refl (fun _ => False) wC).drew (fun _ _ f => f))
  have hc5 := HC5.out
  have hnl := HLE.out
  go_wp2
  refine wp_region_held_drew (S := fun w' => w'.cell? ⟨b5, 0, none⟩ = some (.slice ao n c)) (by kernel_rfl) HC5.out (fun hHeld => ?_)
  refine wpAnyH_take (i := 0) (v := ?_) rfl (by kernel_rfl) (by kernel_rfl) (by kernel_rfl) (fun _ _ _ h => h) (Or.inl ⟨by rfl, ?_⟩) (by assumption) ?_
  rotate_left 1
  · intro w hSw
    go_simp
    try with_reducible rfl
  try simp only [Act.put, List.getElem_toArray, List.getElem_cons_zero, List.getElem_cons_succ, List.setIfInBounds_toArray, List.set_cons_zero, List.set_cons_succ]
  refine wpAnyH_take (i := 1) (v := ?_) rfl (by kernel_rfl) (by kernel_rfl) (by kernel_rfl) (fun _ _ _ h => h) (Or.inl ⟨by rfl, ?_⟩) (by assumption) ?_
  rotate_left 1
  · intro w hSw
    go_simp
    try with_reducible rfl
  try simp only [Act.put, List.getElem_toArray, List.getElem_cons_zero, List.getElem_cons_succ, List.setIfInBounds_toArray, List.set_cons_zero, List.set_cons_succ]
  refine wpAnyH_take (i := 2) (v := ?_) rfl (by kernel_rfl) (by kernel_rfl) (by kernel_rfl) (fun _ _ _ h => h) (Or.inl ⟨by rfl, ?_⟩) (by assumption) ?_
  rotate_left 1
  · intro w hSw
    go_simp
    try with_reducible rfl
  try simp only [Act.put, List.getElem_toArray, List.getElem_cons_zero, List.getElem_cons_succ, List.setIfInBounds_toArray, List.set_cons_zero, List.set_cons_succ]
  refine wpAnyH_take (i := 4) (v := ?_) rfl (by kernel_rfl) (by kernel_rfl) (by kernel_rfl) (fun _ _ _ h => h) (Or.inl ⟨by rfl, ?_⟩) (by assumption) ?_
  rotate_left 1
  · intro w hSw
    go_simp
    try with_reducible rfl
  try simp only [Act.put, List.getElem_toArray, List.getElem_cons_zero, List.getElem_cons_succ, List.setIfInBounds_toArray, List.set_cons_zero, List.set_cons_succ]
  refine wpAnyH_take (i := 5) (v := ?_) rfl (by kernel_rfl) (by kernel_rfl) (by kernel_rfl) (fun _ _ _ h => h) (Or.inl ⟨by rfl, ?_⟩) (by assumption) ?_
  rotate_left 1
  · intro w hSw
    go_simp
    try with_reducible rfl
  try simp only [Act.put, List.getElem_toArray, List.getElem_cons_zero, List.getElem_cons_succ, List.setIfInBounds_toArray, List.set_cons_zero, List.set_cons_succ]
  refine wpAnyH_ready (rs := [3, 6]) (by kernel_rfl) (by simp) ?_
  refine AllReadyH.cons rfl (fun K hK => ?_) (AllReadyH.cons rfl (fun K hK => ?_) AllReadyH.nil)
  · go_simp
    refine hK.out _ _ hc5 (fun hHeld => ?_)
    clear hK K
    try simp only [Act.put, List.getElem_toArray, List.getElem_cons_zero, List.getElem_cons_succ, List.setIfInBounds_toArray, List.set_cons_zero, List.set_cons_succ]
    refine wpAnyH_ready (rs := [6]) (by kernel_rfl) (by simp) ?_
    refine AllReadyH.cons rfl (fun K hK => ?_) AllReadyH.nil
    go_simp
    refine (cost_any _ _ _ _ (by omega)).mono ?_
    rintro e w' ⟨rfl, hw'⟩
    have hw'' := hw'.symm
    clear hw'
    subst hw''
    refine hK.out _ _ hc5 (fun hHeld => ?_)
    clear hK K
    try simp only [Act.put, List.getElem_toArray, List.getElem_cons_zero, List.getElem_cons_succ, List.setIfInBounds_toArray, List.set_cons_zero, List.set_cons_succ]
    refine wpAnyH_take (i := 7) (v := ?_) rfl (by kernel_rfl) (by kernel_rfl) (by kernel_rfl) (fun _ _ _ h => h) (Or.inl ⟨by rfl, ?_⟩) (by assumption) ?_
    rotate_left 1
    · intro w hSw
      go_simp
      try with_reducible rfl
    try simp only [Act.put, List.getElem_toArray, List.getElem_cons_zero, List.getElem_cons_succ, List.setIfInBounds_toArray, List.set_cons_zero, List.set_cons_succ]
    refine wpAnyH_take (i := 8) (v := ?_) rfl (by kernel_rfl) (by kernel_rfl) (by kernel_rfl) (fun _ _ _ h => h) (Or.inl ⟨by rfl, ?_⟩) (by assumption) ?_
    rotate_left 1
    · intro w hSw
      go_simp
      try with_reducible rfl
    try simp only [Act.put, List.getElem_toArray, List.getElem_cons_zero, List.getElem_cons_succ, List.setIfInBounds_toArray, List.set_cons_zero, List.set_cons_succ]
    refine wpAnyH_take (i := 9) (v := ?_) rfl (by kernel_rfl) (by kernel_rfl) (by kernel_rfl) (fun _ _ _ h => h) (Or.inl ⟨by rfl, ?_⟩) (by assumption) ?_
    rotate_left 1
    · intro w hSw
      go_simp
      try with_reducible rfl
    try simp only [Act.put, List.getElem_toArray, List.getElem_cons_zero, List.getElem_cons_succ, List.setIfInBounds_toArray, List.set_cons_zero, List.set_cons_succ]
    refine wpAnyH_ready (rs := [10]) (by kernel_rfl) (by simp) ?_
    refine AllReadyH.cons rfl (fun K hK => ?_) AllReadyH.nil
    go_simp
    refine hK.out _ _ ((kept_set _ ⟨s, 3, none⟩ _).cell hc5 (by show ¬ b5 = s; omega)) (fun hHeld => ?_)
    clear hK K
    try simp only [Act.put, List.getElem_toArray, List.getElem_cons_zero, List.getElem_cons_succ, List.setIfInBounds_toArray, List.set_cons_zero, List.set_cons_succ]
    refine wpAnyH_done (by kernel_rfl) ?_ _
    go_wp2
    obtain ⟨hSD, hKD⟩ := HSET.out wC HSC.out
    have HSD : Hid (Stor (wC.setCell ⟨s, 3, none⟩ (.int .i64 (σ.us - ((n : Int) + 32)))).drew s (.map (some r)) { σ with us := σ.us - ((n : Int) + 32) }) := hSD.kept (Kept.refl (fun _ => False) _).drew (fun _ _ f => f)
    have HRD : Hid ((wC.setCell ⟨s, 3, none⟩ (.int .i64 (σ.us - ((n : Int) + 32)))).drew.heap[r]? = some (.map (σ.es.map En.ent).toArray clock)) := (hKD.block r (heap_lt HRC.out) hrs.1).trans HRC.out
    have HDD : Hid ((wC.setCell ⟨s, 3, none⟩ (.int .i64 (σ.us - ((n : Int) + 32)))).drew.heap[w.heap.size]? = some (.cells ds 28 (0, 0))) := (hKD.block _ (heap_lt HD3.out) (by omega)).trans HD3.out
    have HKD : Hid (Kept (fun k => k = s) wC (wC.setCell ⟨s, 3, none⟩ (.int .i64 (σ.us - ((n : Int) + 32)))).drew) := hKD.drew
    clear hSD hKD HSET HU hu3 hf3 hc5 HC5 HD3 HRC HSC
    generalize (wC.setCell ⟨s, 3, none⟩ (.int .i64 (σ.us - ((n : Int) + 32)))).drew = wD at *
    have hdel := HDEL.out wD.drew clock HRD.out
    have HSO := hid_of ((HSD.out.kept (Kept.refl (fun _ => False) wD).drew (fun _ _ f => f)).drop HRD.out hrs d)
    have hko := kept_over wD.drew r (.map ((drops σ.es d).map En.ent).toArray clock)
    have HKO : Hid (Kept (Own s (.map (some r))) w (World.over wD.drew r (.map ((drops σ.es d).map En.ent).toArray clock))) := ((HKC.out.mono (fun _ _ f => f.elim)).trans (HKD.out.mono (fun _ _ h => .inl h)).drew).trans (hko.mono (fun k _ h => .inr (by rw [h])))
    have hso : (World.over wD.drew r (.map ((drops σ.es d).map En.ent).toArray clock)).cell? ⟨s, 2, none⟩ = some (.map (some r)) ∧ (World.over wD.drew r (.map ((drops σ.es d).map En.ent).toArray clock)).heap[w.heap.size]? = some (.cells ds 28 (0, 0)) := ⟨HSO.out.cell 2, (hko.block _ (heap_lt HDD.out) (by omega)).trans HDD.out⟩
    clear hko HDEL HKC HKD
    refine wp_region_held_drew (S := fun w' => w'.cell? ⟨s, 2, none⟩ = some (.map (some r)) ∧ w'.heap[w.heap.size]? = some (.cells ds 28 (0, 0))) (by kernel_rfl) ⟨HSD.out.cell 2, HDD.out⟩ (fun hHeld => ?_)
    refine wpAnyH_take (i := 0) (v := ?_) rfl (by kernel_rfl) (by kernel_rfl) (by kernel_rfl) (fun _ _ _ h => h) (Or.inl ⟨by rfl, ?_⟩) (by assumption) ?_
    rotate_left 1
    · intro w hSw
      obtain ⟨s1, s2⟩ := hSw
      go_simp
      try with_reducible rfl
    try simp only [Act.put, List.getElem_toArray, List.getElem_cons_zero, List.getElem_cons_succ, List.setIfInBounds_toArray, List.set_cons_zero, List.set_cons_succ]
    refine wpAnyH_take (i := 1) (v := ?_) rfl (by kernel_rfl) (by kernel_rfl) (by kernel_rfl) (fun _ _ _ h => h) (Or.inl ⟨by rfl, ?_⟩) (by assumption) ?_
    rotate_left 1
    · intro w hSw
      obtain ⟨s1, s2⟩ := hSw
      go_simp
      try with_reducible rfl
    try simp only [Act.put, List.getElem_toArray, List.getElem_cons_zero, List.getElem_cons_succ, List.setIfInBounds_toArray, List.set_cons_zero, List.set_cons_succ]
    refine wpAnyH_take (i := 2) (v := ?_) rfl (by kernel_rfl) (by kernel_rfl) (by kernel_rfl) (fun _ _ _ h => h) (Or.inl ⟨by rfl, ?_⟩) (by assumption) ?_
    rotate_left 1
    · intro w hSw
      obtain ⟨s1, s2⟩ := hSw
      go_simp
      try with_reducible rfl
    try simp only [Act.put, List.getElem_toArray, List.getElem_cons_zero, List.getElem_cons_succ, List.setIfInBounds_toArray, List.set_cons_zero, List.set_cons_succ]
    refine wpAnyH_take (i := 3) (v := ?_) rfl (by kernel_rfl) (by kernel_rfl) (by kernel_rfl) (fun _ _ _ h => h) (Or.inl ⟨by rfl, ?_⟩) (by assumption) ?_
    rotate_left 1
    · intro w hSw
      obtain ⟨s1, s2⟩ := hSw
      go_simp
      try with_reducible rfl
    try simp only [Act.put, List.getElem_toArray, List.getElem_cons_zero, List.getElem_cons_succ, List.setIfInBounds_toArray, List.set_cons_zero, List.set_cons_succ]
    refine wpAnyH_take (i := 4) (v := .agg ds) rfl (by kernel_rfl) (by kernel_rfl) (by kernel_rfl) (fun _ _ _ h => h) (yields_row (by rfl) 28 _ rfl w.heap.size rfl 28 ds (0, 0) _ (fun w hSw => hSw.2) Tryd.underlying28 rfl hds) (by assumption) ?_
    try simp only [Act.put, List.getElem_toArray, List.getElem_cons_zero, List.getElem_cons_succ, List.setIfInBounds_toArray, List.set_cons_zero, List.set_cons_succ]
    refine wpAnyH_ready (rs := [5]) (by kernel_rfl) (by simp) ?_
    refine AllReadyH.cons rfl (fun K hK => ?_) AllReadyH.nil
    go_simp
    refine hK.out _ _ hso (fun hHeld => ?_)
    clear hK K
    try simp only [Act.put, List.getElem_toArray, List.getElem_cons_zero, List.getElem_cons_succ, List.setIfInBounds_toArray, List.set_cons_zero, List.set_cons_succ]
    refine wpAnyH_done (by kernel_rfl) ?_ _
    go_wp2
    go_ret
    exact ⟨rfl, HSO.out, HKO.out⟩
  · go_simp
    refine (cost_any _ _ _ _ (by omega)).mono ?_
    rintro e' w' ⟨rfl, hw'⟩
    have hw'' := hw'.symm
    clear hw'
    subst hw''
    refine hK.out _ _ hc5 (fun hHeld => ?_)
    clear hK K
    try simp only [Act.put, List.getElem_toArray, List.getElem_cons_zero, List.getElem_cons_succ, List.setIfInBounds_toArray, List.set_cons_zero, List.set_cons_succ]
    refine wpAnyH_ready (rs := [3]) (by kernel_rfl) (by simp) ?_
    refine AllReadyH.cons rfl (fun K hK => ?_) AllReadyH.nil
    go_simp
    refine hK.out _ _ hc5 (fun hHeld => ?_)
    clear hK K
    try simp only [Act.put, List.getElem_toArray, List.getElem_cons_zero, List.getElem_cons_succ, List.setIfInBounds_toArray, List.set_cons_zero, List.set_cons_succ]
    refine wpAnyH_take (i := 7) (v := ?_) rfl (by kernel_rfl) (by kernel_rfl) (by kernel_rfl) (fun _ _ _ h => h) (Or.inl ⟨by rfl, ?_⟩) (by assumption) ?_
    rotate_left 1
    · intro w hSw
      go_simp
      try with_reducible rfl
    try simp only [Act.put, List.getElem_toArray, List.getElem_cons_zero, List.getElem_cons_succ, List.setIfInBounds_toArray, List.set_cons_zero, List.set_cons_succ]
    refine wpAnyH_take (i := 8) (v := ?_) rfl (by kernel_rfl) (by kernel_rfl) (by kernel_rfl) (fun _ _ _ h => h) (Or.inl ⟨by rfl, ?_⟩) (by assumption) ?_
    rotate_left 1
    · intro w hSw
      go_simp
      try with_reducible rfl
    try simp only [Act.put, List.getElem_toArray, List.getElem_cons_zero, List.getElem_cons_succ, List.setIfInBounds_toArray, List.set_cons_zero, List.set_cons_succ]
    refine wpAnyH_take (i := 9) (v := ?_) rfl (by kernel_rfl) (by kernel_rfl) (by kernel_rfl) (fun _ _ _ h => h) (Or.inl ⟨by rfl, ?_⟩) (by assumption) ?_
    rotate_left 1
    · intro w hSw
      go_simp
      try with_reducible rfl
    try simp only [Act.put, List.getElem_toArray, List.getElem_cons_zero, List.getElem_cons_succ, List.setIfInBounds_toArray, List.set_cons_zero, List.set_cons_succ]
    refine wpAnyH_ready (rs := [10]) (by kernel_rfl) (by simp) ?_
    refine AllReadyH.cons rfl (fun K hK => ?_) AllReadyH.nil
    go_simp
    refine hK.out _ _ ((kept_set _ ⟨s, 3, none⟩ _).cell hc5 (by show ¬ b5 = s; omega)) (fun hHeld => ?_)
    clear hK K
    try simp only [Act.put, List.getElem_toArray, List.getElem_cons_zero, List.getElem_cons_succ, List.setIfInBounds_toArray, List.set_cons_zero, List.set_cons_succ]
    refine wpAnyH_done (by kernel_rfl) ?_ _
    go_wp2
    obtain ⟨hSD, hKD⟩ := HSET.out wC HSC.out
    have HSD : Hid (Stor (wC.setCell ⟨s, 3, none⟩ (.int .i64 (σ.us - ((n : Int) + 32)))).drew s (.map (some r)) { σ with us := σ.us - ((n : Int) + 32) }) := hSD.kept (Kept.refl (fun _ => False) _).drew (fun _ _ f => f)
    have HRD : Hid ((wC.setCell ⟨s, 3, none⟩ (.int .i64 (σ.us - ((n : Int) + 32)))).drew.heap[r]? = some (.map (σ.es.map En.ent).toArray clock)) := (hKD.block r (heap_lt HRC.out) hrs.1).trans HRC.out
    have HDD : Hid ((wC.setCell ⟨s, 3, none⟩ (.int .i64 (σ.us - ((n : Int) + 32)))).drew.heap[w.heap.size]? = some (.cells ds 28 (0, 0))) := (hKD.block _ (heap_lt HD3.out) (by omega)).trans HD3.out
    have HKD : Hid (Kept (fun k => k = s) wC (wC.setCell ⟨s, 3, none⟩ (.int .i64 (σ.us - ((n : Int) + 32)))).drew) := hKD.drew
    clear hSD hKD HSET HU hu3 hf3 hc5 HC5 HD3 HRC HSC
    generalize (wC.setCell ⟨s, 3, none⟩ (.int .i64 (σ.us - ((n : Int) + 32)))).drew = wD at *
    have hdel := HDEL.out wD.drew clock HRD.out
    have HSO := hid_of ((HSD.out.kept (Kept.refl (fun _ => False) wD).drew (fun _ _ f => f)).drop HRD.out hrs d)
    have hko := kept_over wD.drew r (.map ((drops σ.es d).map En.ent).toArray clock)
    have HKO : Hid (Kept (Own s (.map (some r))) w (World.over wD.drew r (.map ((drops σ.es d).map En.ent).toArray clock))) := ((HKC.out.mono (fun _ _ f => f.elim)).trans (HKD.out.mono (fun _ _ h => .inl h)).drew).trans (hko.mono (fun k _ h => .inr (by rw [h])))
    have hso : (World.over wD.drew r (.map ((drops σ.es d).map En.ent).toArray clock)).cell? ⟨s, 2, none⟩ = some (.map (some r)) ∧ (World.over wD.drew r (.map ((drops σ.es d).map En.ent).toArray clock)).heap[w.heap.size]? = some (.cells ds 28 (0, 0)) := ⟨HSO.out.cell 2, (hko.block _ (heap_lt HDD.out) (by omega)).trans HDD.out⟩
    clear hko HDEL HKC HKD
    refine wp_region_held_drew (S := fun w' => w'.cell? ⟨s, 2, none⟩ = some (.map (some r)) ∧ w'.heap[w.heap.size]? = some (.cells ds 28 (0, 0))) (by kernel_rfl) ⟨HSD.out.cell 2, HDD.out⟩ (fun hHeld => ?_)
    refine wpAnyH_take (i := 0) (v := ?_) rfl (by kernel_rfl) (by kernel_rfl) (by kernel_rfl) (fun _ _ _ h => h) (Or.inl ⟨by rfl, ?_⟩) (by assumption) ?_
    rotate_left 1
    · intro w hSw
      obtain ⟨s1, s2⟩ := hSw
      go_simp
      try with_reducible rfl
    try simp only [Act.put, List.getElem_toArray, List.getElem_cons_zero, List.getElem_cons_succ, List.setIfInBounds_toArray, List.set_cons_zero, List.set_cons_succ]
    refine wpAnyH_take (i := 1) (v := ?_) rfl (by kernel_rfl) (by kernel_rfl) (by kernel_rfl) (fun _ _ _ h => h) (Or.inl ⟨by rfl, ?_⟩) (by assumption) ?_
    rotate_left 1
    · intro w hSw
      obtain ⟨s1, s2⟩ := hSw
      go_simp
      try with_reducible rfl
    try simp only [Act.put, List.getElem_toArray, List.getElem_cons_zero, List.getElem_cons_succ, List.setIfInBounds_toArray, List.set_cons_zero, List.set_cons_succ]
    refine wpAnyH_take (i := 2) (v := ?_) rfl (by kernel_rfl) (by kernel_rfl) (by kernel_rfl) (fun _ _ _ h => h) (Or.inl ⟨by rfl, ?_⟩) (by assumption) ?_
    rotate_left 1
    · intro w hSw
      obtain ⟨s1, s2⟩ := hSw
      go_simp
      try with_reducible rfl
    try simp only [Act.put, List.getElem_toArray, List.getElem_cons_zero, List.getElem_cons_succ, List.setIfInBounds_toArray, List.set_cons_zero, List.set_cons_succ]
    refine wpAnyH_take (i := 3) (v := ?_) rfl (by kernel_rfl) (by kernel_rfl) (by kernel_rfl) (fun _ _ _ h => h) (Or.inl ⟨by rfl, ?_⟩) (by assumption) ?_
    rotate_left 1
    · intro w hSw
      obtain ⟨s1, s2⟩ := hSw
      go_simp
      try with_reducible rfl
    try simp only [Act.put, List.getElem_toArray, List.getElem_cons_zero, List.getElem_cons_succ, List.setIfInBounds_toArray, List.set_cons_zero, List.set_cons_succ]
    refine wpAnyH_take (i := 4) (v := .agg ds) rfl (by kernel_rfl) (by kernel_rfl) (by kernel_rfl) (fun _ _ _ h => h) (yields_row (by rfl) 28 _ rfl w.heap.size rfl 28 ds (0, 0) _ (fun w hSw => hSw.2) Tryd.underlying28 rfl hds) (by assumption) ?_
    try simp only [Act.put, List.getElem_toArray, List.getElem_cons_zero, List.getElem_cons_succ, List.setIfInBounds_toArray, List.set_cons_zero, List.set_cons_succ]
    refine wpAnyH_ready (rs := [5]) (by kernel_rfl) (by simp) ?_
    refine AllReadyH.cons rfl (fun K hK => ?_) AllReadyH.nil
    go_simp
    refine hK.out _ _ hso (fun hHeld => ?_)
    clear hK K
    try simp only [Act.put, List.getElem_toArray, List.getElem_cons_zero, List.getElem_cons_succ, List.setIfInBounds_toArray, List.set_cons_zero, List.set_cons_succ]
    refine wpAnyH_done (by kernel_rfl) ?_ _
    go_wp2
    go_ret
    exact ⟨rfl, HSO.out, HKO.out⟩
end Go.Proofs.YtjdbmjkidljhpaaDoor

namespace Go.Proofs.YtjdbmjkidljhpaaDoor
open Go.RowKit
set_option linter.unusedVariables false
set_option linter.unusedSimpArgs false
set_option maxRecDepth 100000

/-- What was put: a digest, its bytes and where they lie. -/
structure Pt where
  d : List Int
  bv : Value
  xs : List Int
def Pt.cells (p : Pt) : List Value := p.d.map (Value.int .u8) ++ [p.bv]
structure Pt.Ok (w : World) (p : Pt) : Prop where
  len : p.d.length = 32
  bin : BIn w p.bv p.xs
  rng : ∀ x ∈ p.xs, 0 ≤ x ∧ x < 256
  short : p.xs.length ≤ 8192
/-- A value is a slice of such. -/
def PIs (w : World) (v : Value) (ps : List Pt) : Prop :=
  ∃ ao cap, v = .slice ao ps.length cap ∧ ∀ i p, ps[i]? = some p → p.Ok w ∧ ∃ g, ao = some ⟨g, 0, none⟩ ∧ w.rangeAt g (i * 33) p.cells

theorem BIn.u8 {w : World} {v : Value} {xs : List Int} (h : BIn w v xs) (hx : xs ≠ []) : ∀ g, v.ownBlock = some g → ∃ o x, w.cell? ⟨g, o, none⟩ = some (.int .u8 x) := by
  obtain ⟨ao, c, rfl, hc, h1⟩ := h
  rcases h1 with h1 | ⟨b, o, rfl, h1⟩
  · exact absurd h1 hx
  · intro g hg
    cases hg
    exact ⟨o, _, h1 0 (List.length_pos_iff.2 hx)⟩
/-- No byte lies in a Store's own blocks. -/
theorem Stor.no8 {w : World} {s : Nat} {mv : Value} {σ : Sg} (h : Stor w s mv σ) {g o : Nat} {x : Int} (hc : w.cell? ⟨g, o, none⟩ = some (.int .u8 x)) : ¬ Own s mv g := by
  intro ho
  rcases ho with rfl | hm
  · rw [cell_block _ _ _ _ _ _ h.blk] at hc
    obtain ⟨r, rfl⟩ := h.ismap
    obtain ⟨hlt, hv⟩ := Array.getElem?_eq_some_iff.1 hc
    have hm := Array.getElem_mem hlt
    rw [hv] at hm
    simp [Sg.cells] at hm
  · rcases h.map with ⟨h1, _⟩ | ⟨r, c, h1, h2, _⟩
    · rw [h1] at hm; cases hm
    · rw [h1] at hm
      cases hm
      obtain ⟨c', t, f, h3⟩ := cell_cells hc
      rw [h2] at h3
      cases h3
theorem BIn.stays {S : Nat → Prop} {w w' : World} {v : Value} {xs : List Int} (h : BIn w v xs) (hk : Kept S w w') (h8 : ∀ g o x, w.cell? ⟨g, o, none⟩ = some (.int .u8 x) → ¬ S g) : BIn w' v xs :=
  h.kept2 hk (fun hx g hg => by
    obtain ⟨o, x, hc⟩ := h.u8 hx g hg
    exact h8 g o x hc)
theorem Pt.Ok.stays {S : Nat → Prop} {w w' : World} {p : Pt} (h : p.Ok w) (hk : Kept S w w') (h8 : ∀ g o x, w.cell? ⟨g, o, none⟩ = some (.int .u8 x) → ¬ S g) : p.Ok w' := ⟨h.len, h.bin.stays hk h8, h.rng, h.short⟩
theorem Pt.first {p : Pt} (h : p.d.length = 32) : ∃ x, p.cells[0]? = some (.int .u8 x) := by
  unfold Pt.cells
  cases hd : p.d with
  | nil => rw [hd] at h; cases h
  | cons x l => exact ⟨x, rfl⟩
theorem PIs.stays {S : Nat → Prop} {w w' : World} {v : Value} {ps : List Pt} (h : PIs w v ps) (hk : Kept S w w') (h8 : ∀ g o x, w.cell? ⟨g, o, none⟩ = some (.int .u8 x) → ¬ S g) : PIs w' v ps := by
  obtain ⟨ao, cap, rfl, h⟩ := h
  refine ⟨ao, cap, rfl, fun i p hp => ?_⟩
  obtain ⟨h1, g, h2, h3⟩ := h i p hp
  refine ⟨h1.stays hk h8, g, h2, fun j u hj => ?_⟩
  obtain ⟨x, hx⟩ := Pt.first h1.len
  exact hk.cell (h3 j u hj) (h8 g _ x (h3 0 _ hx))
theorem Pt.range {w : World} {p : Pt} {g o : Nat} (h : p.d.length = 32) (hr : w.rangeAt g o p.cells) : w.rangeAt g o (p.d.map (Value.int .u8)) ∧ w.cell? ⟨g, o + 32, none⟩ = some p.bv := by
  refine ⟨fun j u hj => hr j u ?_, hr 32 p.bv ?_⟩
  · unfold Pt.cells
    rw [List.getElem?_append_left (by have := (List.getElem?_eq_some_iff.1 hj).1; exact this)]
    exact hj
  · unfold Pt.cells
    rw [List.getElem?_append_right (by simp [h])]
    simp [h]
theorem size28_list (d : List Int) (hd : d.length = 32) : (Tryd.prog.info? 28).map (·.size) = some (d.map (Value.int .u8)).length := by simp [size28, hd]
theorem wpList_mid_wanted {ops : Array Oper} {rest : List Oper} {op : Oper} {a : Act} {w : World} {Q : Exit → Act → World → Prop} (hw : Region.wanted op (yielded ops a.tmps) = true) (ty : TypeId) (x : Operand) (ho : op.op = .load ty x)
    (b o : Nat) (hx : a.eval x = .pointer (some ⟨b, o, none⟩)) (cs : List Value) (d : TypeDesc) (hc : w.rangeAt b o cs)
    (hu : Tryd.prog.underlying ty = some d) (hd : d.isRow = true) (hi : (Tryd.prog.info? ty).map (·.size) = some cs.length)
    (h : wpList Tryd.prog ops Q rest (a.put op.dst (.agg cs.toArray)) w) : wpList Tryd.prog ops Q (op :: rest) a w := by
  unfold wpList
  rw [if_pos hw]
  exact .inl (wp_load_mid ty x ho b o hx cs d hc hu hd hi h)

/-- All that was put lies there. -/
def Holds (k : Nat) (es : List En) (ps : List Pt) : Prop := ∀ p ∈ ps, frontOf k p.xs = p.d ∧ ∃ e, look es p.d = some e ∧ e.xs = p.xs
def Sg.gp (σ : Sg) (i : Nat) : Sg := { σ with gt := σ.gt + i, pt := σ.pt + i }
theorem holds_whole {k : Nat} {es : List En} {p : Pt} (h : frontOf k p.xs = p.d) {e : En} (he : look es p.d = some e) (hx : e.xs = p.xs) : wholeB k es p.d = true ∧ rawX es p.d = p.xs ∧ stampOf es p.d = e.st := by
  unfold wholeB rawX stampOf
  rw [he]
  exact ⟨decide_eq_true (by rw [hx, h]), hx, rfl⟩
end Go.Proofs.YtjdbmjkidljhpaaDoor

namespace Go.Proofs.YtjdbmjkidljhpaaDoor
open Go.RowKit
set_option linter.unusedVariables false
set_option linter.unusedSimpArgs false
set_option maxRecDepth 100000

def flat : List Pt → List Value
  | [] => []
  | p :: ps => p.cells ++ flat ps
theorem Pt.clen {p : Pt} (h : p.d.length = 32) : p.cells.length = 33 := by simp [Pt.cells, h]
theorem flat_len : ∀ (ps : List Pt), (∀ p ∈ ps, p.d.length = 32) → (flat ps).length = ps.length * 33
  | [], _ => rfl
  | p :: ps, h => by
    rw [flat, List.length_append, Pt.clen (h p (List.mem_cons_self ..)), flat_len ps (fun q hq => h q (List.mem_cons_of_mem _ hq)), List.length_cons]
    omega
theorem flat_at : ∀ (ps : List Pt), (∀ p ∈ ps, p.d.length = 32) → ∀ (i : Nat) (p : Pt) (t : Nat) (u : Value), ps[i]? = some p → p.cells[t]? = some u → (flat ps)[i * 33 + t]? = some u
  | [], _, i, p, t, u, h, _ => by cases h
  | q :: ps, hl, 0, p, t, u, h, hu => by
    obtain rfl : q = p := by simpa using h
    have ht := (List.getElem?_eq_some_iff.1 hu).1
    rw [flat, Nat.zero_mul, Nat.zero_add, List.getElem?_append_left ht]
    exact hu
  | q :: ps, hl, i + 1, p, t, u, h, hu => by
    have hq := Pt.clen (hl q (List.mem_cons_self ..))
    rw [flat, List.getElem?_append_right (by omega), hq, show (i + 1) * 33 + t - 33 = i * 33 + t by omega]
    exact flat_at ps (fun x hx => hl x (List.mem_cons_of_mem _ hx)) i p t u (by simpa using h) hu
theorem flat_snoc : ∀ (ps : List Pt) (p : Pt), flat (ps ++ [p]) = flat ps ++ p.cells
  | [], p => by simp [flat]
  | q :: ps, p => by rw [List.cons_append, flat, flat, flat_snoc ps p, List.append_assoc]
theorem pis_own {w : World} {B : Nat} {v : Value} {ps : List Pt} (h : w.ownsRow B 37 33 v ps.length (flat ps)) (hok : ∀ p ∈ ps, p.Ok w) : PIs w v ps := by
  rcases id h.2 with ⟨hv, h0⟩ | ⟨g, cap, cur, hv, _, hg, _⟩
  · exact ⟨none, 0, by rw [hv, h0], fun i p hp => absurd (List.getElem?_eq_some_iff.1 hp).1 (by omega)⟩
  · refine ⟨_, cap, hv, fun i p hp => ⟨hok p (List.mem_of_getElem? hp), g, rfl, fun j u hj => ?_⟩⟩
    have := h.cells (g := g) (by rw [hv]; rfl) (i * 33 + j) u (flat_at ps (fun q hq => (hok q hq).len) i p j u hp hj)
    rw [Addr.add_mid, Nat.zero_add] at this
    exact this
theorem info37 : (Tryd.prog.info? 37).map (fun i => (i.zero, i.size, i.bytes)) = some (some (.agg (#[.int .u8 0, .int .u8 0, .int .u8 0, .int .u8 0, .int .u8 0, .int .u8 0, .int .u8 0, .int .u8 0, .int .u8 0, .int .u8 0, .int .u8 0, .int .u8 0, .int .u8 0, .int .u8 0, .int .u8 0, .int .u8 0, .int .u8 0, .int .u8 0, .int .u8 0, .int .u8 0, .int .u8 0, .int .u8 0, .int .u8 0, .int .u8 0, .int .u8 0, .int .u8 0, .int .u8 0, .int .u8 0, .int .u8 0, .int .u8 0, .int .u8 0, .int .u8 0, .slice none 0 0])), 33, 56) := by kernel_rfl
theorem BIn.one {w : World} {v : Value} {xs : List Int} (h : BIn w v xs) : v.oneCell' = true := by
  obtain ⟨ao, c, rfl, _⟩ := h
  rfl
theorem app_put (W : World) (v : Value) (base : Nat) (ps : List Pt) (p : Pt) (hp : p.d.length = 32) (h1 : p.bv.oneCell' = true) (hown : W.ownsRow base 37 33 v ps.length (flat ps)) (hb : base ≤ W.heap.size) (hsz : (ps.length + 1) * 56 ≤ 140737488355328) :
    ∃ v' w', (Builtin.append_ #[25, 25] 25 #[v, .slice (some ⟨W.heap.size, 0, none⟩) 1 1]).run Tryd.prog (W.alloc (.cells p.cells.toArray 37)) = .ok v' w' ∧ w'.ownsRow base 37 33 v' (ps ++ [p]).length (flat (ps ++ [p])) ∧ (∃ g cap, v' = .slice (some ⟨g, 0, none⟩) (ps ++ [p]).length cap) ∧ Kept (fun k => v.ownBlock = some k) W w' := by
  obtain ⟨i0, hi, hz0, hz1, hz2⟩ := info_parts info37
  obtain ⟨v', w', hr, h2, h3, _⟩ := run_append_own (P := Tryd.prog) (W.alloc (.cells p.cells.toArray 37)) base 25 25 37 i0 _ 33 56 Tryd.underlying25 hi hz0 hz1 hz2 rfl (by decide) v ps.length (flat ps) (hown.alloc _) ⟨W.heap.size, 0, none⟩ 1 1 p.cells (by rw [Pt.clen hp]) (fun j u hj => by
    rw [Addr.add_mid, cell_block _ _ _ _ _ _ (alloc_new _ _ rfl), Nat.zero_add]
    simpa using hj) (by
      intro u hu
      unfold Pt.cells at hu
      rcases List.mem_append.1 hu with hu | hu
      · obtain ⟨x, _, rfl⟩ := List.mem_map.1 hu
        rfl
      · rw [List.mem_singleton.1 hu]; exact h1) (by unfold maxLen; omega) hsz (by simp; omega)
  rw [← flat_snoc] at h2
  refine ⟨v', w', hr, by rw [List.length_append]; exact h2, ?_, ?_⟩
  · rw [List.length_append]
    rcases h2.2 with ⟨_, h⟩ | ⟨g, cap, cur, h, _⟩
    · simp at h
    · exact ⟨g, cap, h⟩
  · exact ((Kept.refl (fun k => v.ownBlock = some k) W).alloc _).grown h3 (fun k hk => .inr hk)
theorem size37 (p : Pt) (h : p.d.length = 32) : (Tryd.prog.info? 37).map (·.size) = some p.cells.length := by
  obtain ⟨i0, hi, hz0, hz1, hz2⟩ := info_parts info37
  rw [hi, Pt.clen h]
  simp [hz1]
theorem fold_get : ∀ (cs : List Value) (k : Nat) (init : Array Value), k + cs.length ≤ init.size → ∀ i, ((cs.zipIdx k).foldl (fun a x => a.setIfInBounds x.2 x.1) init)[i]? = if k ≤ i ∧ i < k + cs.length then cs[i - k]? else init[i]?
  | [], k, init, _, i => by
    rw [if_neg (by simp; try omega)]
    rfl
  | c :: cs, k, init, h, i => by
    rw [List.zipIdx_cons, List.foldl_cons, fold_get cs (k + 1) _ (by simp at h ⊢; omega) i]
    simp only [List.length_cons]
    rw [Array.getElem?_setIfInBounds]
    by_cases e : k = i
    · subst e
      rw [if_neg (by omega), if_pos rfl, if_pos (by simp at h; omega), if_pos (by omega), Nat.sub_self]
      rfl
    · rw [if_neg e]
      by_cases e2 : k + 1 ≤ i ∧ i < k + 1 + cs.length
      · rw [if_pos e2, if_pos (by omega), show i - k = (i - (k + 1)) + 1 by omega]
        rfl
      · rw [if_neg e2, if_neg (by omega)]
theorem fill_one (cs : List Value) (init : Array Value) (hl : cs.length = 33) (hi : init.size = 33) : Instr.fill (fun i => some (i * 33, 33)) init [(0, .agg cs.toArray)] = some cs.toArray := by
  have hf : (cs.zipIdx.foldl (fun a x => a.setIfInBounds x.2 x.1) init) = cs.toArray := by
    apply Array.ext_getElem?
    intro i
    rw [fold_get cs 0 init (by omega) i]
    by_cases h : 0 ≤ i ∧ i < 0 + cs.length
    · rw [if_pos h]
      simp
    · rw [if_neg h, Array.getElem?_eq_none (by omega), Array.getElem?_eq_none (by simp; omega)]
  simp [Instr.fill, Value.cells, hl, hi, hf]
theorem wpList_build37 {ops : Array Oper} {rest : List Oper} {o : Oper} {a : Act} {w : World} {Q : Exit → Act → World → Prop} (hg : o.guard = none) (x : Operand) (ho : o.op = .buildSlice 25 1 #[(0, x)]) (cs : List Value) (hx : a.eval x = .agg cs.toArray) (hl : cs.length = 33)
    (h : wpList Tryd.prog ops Q rest (a.put o.dst (.slice (some ⟨w.heap.size, 0, none⟩) 1 1)) (w.alloc (.cells cs.toArray 37))) : wpList Tryd.prog ops Q (o :: rest) a w := by
  obtain ⟨i0, hi, hz0, hz1, hz2⟩ := info_parts info37
  refine wpList_buildSlice hg 25 37 1 _ ho cs.toArray i0 _ Tryd.underlying25 hi hz0 (by rw [hz1]; decide) (by rw [hz1]; decide) ?_ h
  rw [hz1]
  have e : (#[(0, x)].map fun (i, y) => (i, a.eval y)).toList = [(0, .agg cs.toArray)] := by rw [← hx]; simp
  rw [e]
  exact fill_one cs _ hl (by simp)
/-- Those of other digests. -/
def others (ps : List Pt) (d : List Int) : List Pt := ps.filter (fun p => !decide (p.d = d))
theorem others_take (ps : List Pt) (d : List Int) (j : Nat) (p : Pt) (h : ps[j]? = some p) : others (ps.take (j + 1)) d = if p.d = d then others (ps.take j) d else others (ps.take j) d ++ [p] := by
  unfold others
  rw [List.take_add_one, h]
  by_cases e : p.d = d
  · simp [List.filter_append, e]
  · simp [List.filter_append, e]
end Go.Proofs.YtjdbmjkidljhpaaDoor

namespace Go.Proofs.YtjdbmjkidljhpaaDoor
open Go.RowKit
set_option linter.unusedVariables false
set_option linter.unusedSimpArgs false
set_option maxRecDepth 100000

theorem own_low {w : World} {B C : Nat} {e : TypeId} {size n : Nat} {v : Value} {xs : List Value} (h : w.ownsRow B e size v n xs) (hb : C ≤ B) : w.ownsRow C e size v n xs := by
  refine ⟨h.1, ?_⟩
  rcases h.2 with h1 | ⟨g, cap, cur, h1, h2, h3⟩
  · exact .inl h1
  · exact .inr ⟨g, cap, cur, h1, Nat.le_trans hb h2, h3⟩
set_option maxHeartbeats 8000000 in
theorem without_any (w : World) (v : Value) (ps : List Pt) (hp : PIs w v ps) (d : List Int) (hd : d.length = 32) (hn : ps.length ≤ 1000000) :
    Calls Tryd.prog 12 #[v, dv d] w fun e w' => ∃ v', e = .returned v' ∧ w'.ownsRow w.heap.size 37 33 v' (others ps d).length (flat (others ps d)) ∧ Kept (fun _ => False) w w' := by
  obtain ⟨ao, cap, hv, _⟩ := id hp
  subst hv
  have hds := size28_of d hd
  have HP := hid_of hp
  have HDL := hid_of hd
  have HBX : Hid ((w.alloc (.cells (d.map (Value.int .u8)).toArray 28)).heap[w.heap.size]? = some (.cells (d.map (Value.int .u8)).toArray 28 (0, 0))) := alloc_new _ _ rfl
  have HKX : Hid (Kept (fun _ => False) w (w.alloc (.cells (d.map (Value.int .u8)).toArray 28))) := (Kept.refl _ w).alloc _
  clear hp hd
  unfold dv
  have HDS : Hid (dv d = .agg (d.map (Value.int .u8)).toArray) := rfl
  generalize (d.map (Value.int .u8)).toArray = ds at *
  go_enter Tryd.func12, Tryd.ntmps12
  go_wp2
  generalize w.alloc (.cells ds 28) = wA at *
  go_loopw [5, 6] (fun o i wr => ∃ j : Nat, j ≤ ps.length ∧ i = .int .i64 j ∧ wr.ownsRow (w.heap.size + 1) 37 33 o (others (ps.take j) d).length (flat (others (ps.take j) d)) ∧ wr.heap[w.heap.size]? = some (.cells ds 28 (0, 0)) ∧ Kept (fun _ => False) w wr) (fun _ i _ => ps.length - (intOf i).toNat)
  case atStart => exact ⟨0, by omega, rfl, World.ownsRow_nil _ _ _ _, HBX.out, HKX.out⟩
  case round =>
    obtain ⟨j, hj, rfl, hO, hD, hK⟩ := hrel
    clear HBX HKX
    by_cases hlt : j < ps.length
    · obtain ⟨p, hpj⟩ : ∃ p, ps[j]? = some p := ⟨_, List.getElem?_eq_getElem hlt⟩
      obtain ⟨ao', cap', hv', hall⟩ := HP.out.stays hK (fun g o x hc f => f)
      cases hv'
      obtain ⟨hOk, g, hao, hr⟩ := hall j p hpj
      subst hao
      obtain ⟨hr1, hr2⟩ := Pt.range hOk.len hr
      have hjI : (j : Int) < (ps.length : Int) := by omega
      have HO := hid_of hO
      have HD := hid_of hD
      have HK := hid_of hK
      have HR := hid_of hr
      have HR1 := hid_of hr1
      have HOK := hid_of hOk
      have HTK := hid_of (others_take ps d j p hpj)
      have hi28 := size28_list p.d hOk.len
      have hi37 := size37 p hOk.len
      have HEQ : Hid (∀ W' : World, (Op.equalIn 10000 28 (.agg (p.d.map (Value.int .u8)).toArray) (.agg ds)).run Tryd.prog W' = .ok (decide (p.d = d)) W') := fun W' => by
        rw [← HDS.out]
        exact run_eq_arr W' 9998 28 32 p.d d Tryd.underlying28 hOk.len HDL.out
      have HOL : Hid ((others (ps.take j) d).length ≤ 1000000) := by
        have h7 : (others (ps.take j) d).length ≤ (ps.take j).length := List.length_filter_le _ _
        have h8 : (ps.take j).length ≤ ps.length := by rw [List.length_take]; omega
        show _ ≤ _
        omega
      have hsw := hK.size
      clear hall hOk hr hr1 hr2 hO hD hK hpj hlt
      go_wp2
      refine wp_region_held_drew (S := fun w' => w'.rangeAt g (j * 33) (p.d.map (Value.int .u8)) ∧ w'.heap[w.heap.size]? = some (.cells ds 28 (0, 0))) (by kernel_rfl) ⟨HR1.out, HD.out⟩ (fun hHeld => ?_)
      refine wpAnyH_take (i := 0) (v := ?_) rfl (by kernel_rfl) (by kernel_rfl) (by kernel_rfl) (fun _ _ _ h => h) (Or.inl ⟨by rfl, ?_⟩) (by assumption) ?_
      rotate_left 1
      · intro w hSw
        go_simp
        try with_reducible rfl
      try simp only [Act.put, List.getElem_toArray, List.getElem_cons_zero, List.getElem_cons_succ, List.setIfInBounds_toArray, List.set_cons_zero, List.set_cons_succ]
      refine wpAnyH_take (i := 1) (v := ?_) rfl (by kernel_rfl) (by kernel_rfl) (by kernel_rfl) (fun _ _ _ h => h) (Or.inl ⟨by rfl, ?_⟩) (by assumption) ?_
      rotate_left 1
      · intro w hSw
        go_simp
        try with_reducible rfl
      try simp only [Act.put, List.getElem_toArray, List.getElem_cons_zero, List.getElem_cons_succ, List.setIfInBounds_toArray, List.set_cons_zero, List.set_cons_succ]
      refine wpAnyH_take (i := 2) (v := ?_) rfl (by kernel_rfl) (by kernel_rfl) (by kernel_rfl) (fun _ _ _ h => h) (Or.inl ⟨by rfl, ?_⟩) (by assumption) ?_
      rotate_left 1
      · intro w hSw
        go_simp
        try with_reducible rfl
      try simp only [Act.put, List.getElem_toArray, List.getElem_cons_zero, List.getElem_cons_succ, List.setIfInBounds_toArray, List.set_cons_zero, List.set_cons_succ]
      refine wpAnyH_take (i := 3) (v := ?_) rfl (by kernel_rfl) (by kernel_rfl) (by kernel_rfl) (fun _ _ _ h => h) (Or.inl ⟨by rfl, ?_⟩) (by assumption) ?_
      rotate_left 1
      · intro w hSw
        go_simp
        try with_reducible rfl
      try simp only [Act.put, List.getElem_toArray, List.getElem_cons_zero, List.getElem_cons_succ, List.setIfInBounds_toArray, List.set_cons_zero, List.set_cons_succ]
      refine wpAnyH_take (i := 4) (v := .agg (p.d.map (Value.int .u8)).toArray) rfl (by kernel_rfl) (by kernel_rfl) (by kernel_rfl) (fun _ _ _ h => h) (yieldsIf_load_mid (by rfl) 28 _ rfl g (j * 33) rfl (p.d.map (Value.int .u8)) _ (fun w hSw => hSw.1) Tryd.underlying28 rfl hi28) (by assumption) ?_
      try simp only [Act.put, List.getElem_toArray, List.getElem_cons_zero, List.getElem_cons_succ, List.setIfInBounds_toArray, List.set_cons_zero, List.set_cons_succ]
      refine wpAnyH_take (i := 5) (v := .agg ds) rfl (by kernel_rfl) (by kernel_rfl) (by kernel_rfl) (fun _ _ _ h => h) (yields_row (by rfl) 28 _ rfl w.heap.size rfl 28 ds (0, 0) _ (fun w hSw => hSw.2) Tryd.underlying28 rfl hds) (by assumption) ?_
      try simp only [Act.put, List.getElem_toArray, List.getElem_cons_zero, List.getElem_cons_succ, List.setIfInBounds_toArray, List.set_cons_zero, List.set_cons_succ]
      refine wpAnyH_take (i := 6) (v := ?_) rfl (by kernel_rfl) (by kernel_rfl) (by kernel_rfl) (fun _ _ _ h => h) (Or.inl ⟨by rfl, ?_⟩) (by assumption) ?_
      rotate_left 1
      · intro w hSw
        have hq := HEQ.out w
        go_simp
        try with_reducible rfl
      try simp only [Act.put, List.getElem_toArray, List.getElem_cons_zero, List.getElem_cons_succ, List.setIfInBounds_toArray, List.set_cons_zero, List.set_cons_succ]
      refine wpAnyH_done (by kernel_rfl) ?_ _
      by_cases he : p.d = d
      · rw [decide_eq_true he]
        have HE := hid_of he
        clear he
        go_wp2
        go_roundw
        case rel => exact ⟨j + 1, by omega, by go_num, by rw [HTK.out, if_pos HE.out]; exact HO.out, HD.out, HK.out.drew⟩
        case measure => simp [intOf]; omega
      · rw [decide_eq_false he]
        have HE := hid_of he
        clear he
        have hol := HOL.out
        have hdl := heap_lt HD.out
        obtain ⟨v5, w5, hr5, ho5, ⟨g5, c5, hv5⟩, hk5⟩ := app_put wr.drew _ (w.heap.size + 1) (others (ps.take j) d) p HOK.out.len HOK.out.bin.one HO.out (by show w.heap.size + 1 ≤ wr.heap.size; omega) (by omega)
        subst hv5
        have hbl : ∀ k, u5.ownBlock = some k → w.heap.size + 1 ≤ k := fun k hk => (HO.out.lt k hk).1
        have HO5 : Hid (w5.ownsRow (w.heap.size + 1) 37 33 (.slice (some ⟨g5, 0, none⟩) (others (ps.take j) d ++ [p]).length c5) (others (ps.take (j + 1)) d).length (flat (others (ps.take (j + 1)) d))) := by rw [HTK.out, if_neg HE.out]; exact ho5
        have HD5 := hid_of ((hk5.block w.heap.size (heap_lt HD.out) (fun e => by have := hbl _ e; omega)).trans HD.out)
        have HK5 : Hid (Kept (fun _ => False) w w5) := HK.out.drew.step hk5 (fun i hi e => by have := hbl _ e; omega)
        clear ho5 hk5 hbl hol
        go_wp2_with (first | (refine wpList_load_mid rfl 37 _ rfl g (j * 33) rfl p.cells _ HR.out Tryd.underlying37 rfl hi37 ?_) | (refine wpList_build37 rfl _ rfl p.cells rfl (Pt.clen HOK.out.len) ?_) | (refine wp_app rfl (.tmp 20) (.tmp 25) 25 25 ?_ _ _ rfl rfl (.slice (some ⟨g5, 0, none⟩) (others (ps.take j) d ++ [p]).length c5) w5 ?_ ?_; rfl; exact hr5))
        go_roundw
        case rel => exact ⟨j + 1, by omega, by go_num, by have h7 := HO5.out; rw [List.length_append] at h7; exact h7, HD5.out, HK5.out⟩
        case measure => simp [intOf]; omega
    · have hjI : ¬ (j : Int) < (ps.length : Int) := by omega
      obtain rfl : j = ps.length := by omega
      have HO := hid_of hO
      have HK := hid_of hK
      rw [List.take_length] at HO
      clear hO hD hK
      go_wp2
      go_ret
      exact ⟨_, rfl, own_low HO.out (by omega), HK.out⟩
end Go.Proofs.YtjdbmjkidljhpaaDoor

namespace Go.Proofs.YtjdbmjkidljhpaaDoor
open Go.RowKit
set_option linter.unusedVariables false
set_option linter.unusedSimpArgs false
set_option maxRecDepth 100000

theorem gp_step (σ : Sg) (j : Nat) : (σ.gp j).get1.put1 = σ.gp (j + 1) := by
  unfold Sg.gp Sg.get1 Sg.put1
  simp [Int.add_assoc]
set_option maxHeartbeats 8000000 in
theorem found_any {w : World} {s : Nat} {mv : Value} {σ : Sg} (h : Stor w s mv σ) (hL : Laid w) (hs0 : s ≠ 0) (k : Nat) (hk : σ.wd = k) (h1 : 1 ≤ k) (h2 : k ≤ 32) (v : Value) (ps : List Pt) (hp : PIs w v ps) (hh : Holds k σ.es ps) (hgt : 0 ≤ σ.gt) (hgt2 : σ.gt ≤ 549755813888) (hpt : 0 ≤ σ.pt) (hpt2 : σ.pt ≤ 549755813888) (hn : ps.length ≤ 549755813888) :
    Calls Tryd.prog 16 #[.pointer (some ⟨s, 0, none⟩), v] w fun e w' => e = .returned (.bool true) ∧ Stor w' s mv (σ.gp ps.length) ∧ Kept (fun k => k = s) w w' := by
  obtain ⟨ao, cap, hv, _⟩ := id hp
  subst hv
  have HS := hid_of h
  have HL := hid_of hL
  have HP := hid_of hp
  have HH := hid_of hh
  have HWD := hid_of hk
  clear h hL hp hh hk
  go_enter Tryd.func16, Tryd.ntmps16
  go_wp2
  go_loopw [5] (fun i wr => ∃ j : Nat, j ≤ ps.length ∧ i = .int .i64 j ∧ Stor wr s mv (σ.gp j) ∧ Kept (fun k => k = s) w wr) (fun i _ => ps.length - (intOf i).toNat)
  case atStart => exact ⟨0, by omega, rfl, by have := HS.out; simpa [Sg.gp] using this, Kept.refl _ _⟩
  case round =>
    obtain ⟨j, hj, rfl, hSj, hKj⟩ := hrel
    by_cases hlt : j < ps.length
    · obtain ⟨p, hpj⟩ : ∃ p, ps[j]? = some p := ⟨_, List.getElem?_eq_getElem hlt⟩
      have hPj : PIs wr (.slice ao ps.length cap) ps := HP.out.stays hKj (fun g o x hc e => HS.out.no8 hc (.inl e))
      obtain ⟨ao', cap', hv', hall⟩ := id hPj
      cases hv'
      obtain ⟨hOk, g, hao, hr⟩ := hall j p hpj
      subst hao
      obtain ⟨hfr, e, hle, hex⟩ := HH.out p (List.mem_of_getElem? hpj)
      obtain ⟨hwh, hraw, hst⟩ := holds_whole hfr hle hex
      obtain ⟨hr1, hr2⟩ := Pt.range hOk.len hr
      obtain ⟨pao, pcap, hpbv, _, _⟩ := id hOk.bin
      rw [hpbv] at hr2
      have hjI : (j : Int) < (ps.length : Int) := by omega
      have HPJ := hid_of hpj
      have HSj := hid_of hSj
      have HKj := hid_of hKj
      have HOK := hid_of hOk
      have HR1 := hid_of hr1
      have HR2 := hid_of hr2
      have HFR := hid_of hfr
      have HLE := hid_of hle
      have HEX := hid_of hex
      have HWH := hid_of hwh
      have HRAW := hid_of hraw
      have HSTM := hid_of hst
      have HDL := hid_of hOk.len
      have HBV := hid_of hpbv
      have HGS : Hid (∀ w', Stor w' s mv (σ.gp j) → w'.rangeAt g (j * 33) (p.d.map (Value.int .u8)) → g ≠ s) := fun w' hS hR e => by
        obtain ⟨x, hx⟩ : ∃ x, (p.d.map (Value.int .u8))[0]? = some (.int .u8 x) := by
          cases hd : p.d with
          | nil => have h7 := HDL.out; rw [hd] at h7; cases h7
          | cons x l => exact ⟨x, rfl⟩
        exact hS.no8 (hR 0 _ hx) (.inl e)
      have hi28 := size28_list p.d hOk.len
      clear hPj hall hOk hr hfr hle hex hwh hraw hst hr1 hr2 hpbv hSj hKj hpj hlt
      have HGT := hid_of (get_ok HSj.out (laid_kept HL.out HKj.out (fun e => hs0 e.symm)) hs0 k HWD.out h1 h2 p.d HDL.out (by show (0 : Int) ≤ σ.gt + (j : Int); omega) (by show σ.gt + (j : Int) ≤ 1099511627776; omega) HWH.out)
      unfold dv at HGT
      rw [show (σ.gp j).es = σ.es from rfl, HRAW.out] at HGT
      go_wp2_with (refine wpList_load_mid rfl 28 _ rfl g (j * 33) rfl (p.d.map (Value.int .u8)) _ HR1.out Tryd.underlying28 rfl hi28 ?_)
      have hgs := HGS.out wr HSj.out HR1.out
      have HRA0 := HR1
      have HRB0 := HR2
      clear HR1 HR2 HGS
      have HOK8 : Hid (∀ w' : World, Kept (fun k => k = s) w w' → p.Ok w') := fun w' hw' => by
        obtain ⟨ao', cap', hv', hall⟩ := HP.out.stays hw' (fun g o x hc e => HS.out.no8 hc (.inl e))
        cases hv'
        exact (hall j p HPJ.out).1
      refine HGT.out.mono ?_
      rintro e' w1 ⟨gv, rfl, hgv, _, hS1, hk1⟩
      have hgs1 : ¬ (fun k => k = s) g := hgs
      have HRA1 : Hid (w1.rangeAt g (j * 33) (p.d.map (Value.int .u8))) := fun i u hi => hk1.cell (HRA0.out i u hi) hgs
      have HRB1 := hid_of (hk1.cell HRB0.out hgs)
      have HS1 := hid_of hS1
      have HK1 := hid_of (HKj.out.trans hk1)
      obtain ⟨gn, gc, hgg, _, _⟩ := id hgv
      subst hgg
      have HG1 := hid_of hgv
      clear hgv hS1 hk1 HGT HSj HKj HRA0 HRB0 hgs1
      have HSM : Hid (Calls Tryd.prog 23 #[.slice gn p.xs.length gc, .slice pao p.xs.length pcap] w1 fun e w' => e = .returned (.bool true) ∧ Kept (fun _ => False) w1 w') := by
        have h7 := (HOK8.out w1 HK1.out).bin
        rw [HBV.out] at h7
        have := same_any _ _ _ _ w1 HG1.out h7 (by have := (HOK8.out w1 HK1.out).short; unfold maxLen; omega)
        rwa [decide_eq_true rfl] at this
      have hc1 := HRB1.out
      go_wp2_with fail
      refine HSM.out.mono ?_
      rintro e' w2 ⟨rfl, hk2⟩
      have HRA2 : Hid (w2.rangeAt g (j * 33) (p.d.map (Value.int .u8))) := fun i u hi => hk2.cell (HRA1.out i u hi) (fun f => f)
      have HRB2 := hid_of (hk2.cell HRB1.out (fun f => f))
      have HS2 := hid_of (HS1.out.kept hk2 (fun _ _ f => f))
      have HK2 := hid_of (HK1.out.trans (hk2.mono (fun _ _ f => f.elim)))
      clear hk2 HRA1 HRB1 HS1 HK1
      clear HSM HG1 hc1
      have HWO := hid_of (whole_any HS2.out (laid_kept HL.out HK2.out (fun e => hs0 e.symm)) k HWD.out h1 h2 p.d HDL.out)
      rw [show (σ.gp j).get1.es = σ.es from rfl, HWH.out] at HWO
      unfold dv at HWO
      go_wp2_with (refine wpList_mid_wanted (by rfl) 28 _ rfl g (j * 33) rfl (p.d.map (Value.int .u8)) _ HRA2.out Tryd.underlying28 rfl hi28 ?_)
      refine HWO.out.mono ?_
      rintro e' w3 ⟨rfl, hk3⟩
      have HRA3 : Hid (w3.rangeAt g (j * 33) (p.d.map (Value.int .u8))) := fun i u hi => hk3.cell (HRA2.out i u hi) (fun f => f)
      have HRB3 := hid_of (hk3.cell HRB2.out (fun f => f))
      have HS3 := hid_of (HS2.out.kept hk3 (fun _ _ f => f))
      have HK3 := hid_of (HK2.out.trans (hk3.mono (fun _ _ f => f.elim)))
      clear hk3 HRA2 HRB2 HS2 HK2
      clear HWO
      have HSP : Hid (∀ w', Stor w' s mv (σ.gp j).get1 → Calls Tryd.prog 36 #[.pointer (some ⟨s, 0, none⟩), .agg (p.d.map (Value.int .u8)).toArray] w' fun f w'' => f = .returned (.int .i64 e.st) ∧ Kept (fun _ => False) w' w'') := fun w' hS => by
        have := stamp_any hS p.d HDL.out
        rw [show (σ.gp j).get1.es = σ.es from rfl, HSTM.out] at this
        exact this
      go_wp2_with (refine wpList_load_mid rfl 28 _ rfl g (j * 33) rfl (p.d.map (Value.int .u8)) _ HRA3.out Tryd.underlying28 rfl hi28 ?_)
      refine (HSP.out w3 HS3.out).mono ?_
      rintro e' w4 ⟨rfl, hk4⟩
      have HRA4 : Hid (w4.rangeAt g (j * 33) (p.d.map (Value.int .u8))) := fun i u hi => hk4.cell (HRA3.out i u hi) (fun f => f)
      have HRB4 := hid_of (hk4.cell HRB3.out (fun f => f))
      have HS4 := hid_of (HS3.out.kept hk4 (fun _ _ f => f))
      have HK4 := hid_of (HK3.out.trans (hk4.mono (fun _ _ f => f.elim)))
      clear hk4 HRA3 HRB3 HS3 HK3
      have HPT := hid_of (put_same HS4.out (laid_kept HL.out HK4.out (fun e => hs0 e.symm)) hs0 k HWD.out h1 h2 _ p.xs (HOK8.out w4 HK4.out).bin (HOK8.out w4 HK4.out).rng (by have := (HOK8.out w4 HK4.out).short; omega) (fun h0 q hq e => by obtain ⟨o, x, hc⟩ := (HOK8.out w4 HK4.out).bin.u8 h0 q hq; exact HS4.out.no8 hc (.inl e)) (by show (0 : Int) ≤ σ.pt + (j : Int); omega) (by show σ.pt + (j : Int) ≤ 1099511627776; omega) e (by rw [HFR.out]; exact HLE.out) HEX.out)
      rw [HFR.out, HBV.out] at HPT
      unfold dv at HPT
      have hc4 := HRB4.out
      go_wp2_with fail
      refine HPT.out.mono ?_
      rintro e' w5 ⟨rfl, hS5, hk5⟩
      have HRA5 : Hid (w5.rangeAt g (j * 33) (p.d.map (Value.int .u8))) := fun i u hi => hk5.cell (HRA4.out i u hi) hgs
      have HS5 := hid_of hS5
      have HK5 := hid_of (HK4.out.trans hk5)
      clear hS5 hk5 HPT hc4 HRA4 HRB4 HS4 HK4
      have hds := size28_of p.d HDL.out
      have hone := oneCells .u8 p.d
      have HOS : Hid (32 = (p.d.map (Value.int .u8)).toArray.size) := by show 32 = _; simp [HDL.out]
      have HEQD : Hid (∀ W' : World, (Op.equalIn 10000 28 (dv p.d) (dv p.d)).run Tryd.prog W' = .ok true W') := fun W' => by
        have := run_eq_arr W' 9998 28 32 p.d p.d Tryd.underlying28 HDL.out HDL.out
        rw [decide_eq_true rfl] at this
        exact this
      unfold dv at HEQD
      have hk56 : Kept (fun _ => False) w5 (w5.alloc (.cells (p.d.map (Value.int .u8)).toArray 28)) := (Kept.refl _ w5).alloc _
      have HD6 : Hid ((w5.alloc (.cells (p.d.map (Value.int .u8)).toArray 28)).heap[w5.heap.size]? = some (.cells (p.d.map (Value.int .u8)).toArray 28 (0, 0))) := alloc_new _ _ rfl
      have HS6 := hid_of (HS5.out.kept hk56 (fun _ _ f => f))
      have HK6 := hid_of (HK5.out.trans (hk56.mono (fun _ _ f => f.elim)))
      have HRA6 : Hid ((w5.alloc (.cells (p.d.map (Value.int .u8)).toArray 28)).rangeAt g (j * 33) (p.d.map (Value.int .u8))) := fun i u hi => hk56.cell (HRA5.out i u hi) (fun f => f)
      clear hk56
      go_wp2_with (refine wpList_store_row rfl 28 _ _ rfl w5.heap.size (p.d.map (Value.int .u8)).toArray rfl rfl 28 _ (alloc_new _ _ rfl) hds HOS.out hone ?_; rw [setRow_new _ _ _ _ rfl])
      try simp only [Act.put]
      generalize w5.alloc (.cells (p.d.map (Value.int .u8)).toArray 28) = w6 at *
      generalize w5.heap.size = b9 at *
      clear HS5 HK5 HRA5
      have HSP6 : Hid (∀ w', Stor w' s mv (σ.gp j).get1.put1 → Calls Tryd.prog 36 #[.pointer (some ⟨s, 0, none⟩), .agg (p.d.map (Value.int .u8)).toArray] w' fun f w'' => f = .returned (.int .i64 e.st) ∧ Kept (fun _ => False) w' w'') := fun w' hS => by
        have := stamp_any hS p.d HDL.out
        rw [show (σ.gp j).get1.put1.es = σ.es from rfl, HSTM.out] at this
        exact this
      refine wp_region_held_drew (S := fun w' => w'.heap[b9]? = some (.cells (p.d.map (Value.int .u8)).toArray 28 (0, 0)) ∧ w'.rangeAt g (j * 33) (p.d.map (Value.int .u8))) (by kernel_rfl) ⟨HD6.out, HRA6.out⟩ (fun hHeld => ?_)
      refine wpAnyH_take (i := 0) (v := ?_) rfl (by kernel_rfl) (by kernel_rfl) (by kernel_rfl) (fun _ _ _ h => h) (Or.inl ⟨by rfl, ?_⟩) (by assumption) ?_
      rotate_left 1
      · intro w hSw
        go_simp
        try with_reducible rfl
      try simp only [Act.put, List.getElem_toArray, List.getElem_cons_zero, List.getElem_cons_succ, List.setIfInBounds_toArray, List.set_cons_zero, List.set_cons_succ]
      refine wpAnyH_take (i := 1) (v := ?_) rfl (by kernel_rfl) (by kernel_rfl) (by kernel_rfl) (fun _ _ _ h => h) (Or.inl ⟨by rfl, ?_⟩) (by assumption) ?_
      rotate_left 1
      · intro w hSw
        go_simp
        try with_reducible rfl
      try simp only [Act.put, List.getElem_toArray, List.getElem_cons_zero, List.getElem_cons_succ, List.setIfInBounds_toArray, List.set_cons_zero, List.set_cons_succ]
      refine wpAnyH_take (i := 2) (v := ?_) rfl (by kernel_rfl) (by kernel_rfl) (by kernel_rfl) (fun _ _ _ h => h) (Or.inl ⟨by rfl, ?_⟩) (by assumption) ?_
      rotate_left 1
      · intro w hSw
        go_simp
        try with_reducible rfl
      try simp only [Act.put, List.getElem_toArray, List.getElem_cons_zero, List.getElem_cons_succ, List.setIfInBounds_toArray, List.set_cons_zero, List.set_cons_succ]
      refine wpAnyH_take (i := 3) (v := .agg (p.d.map (Value.int .u8)).toArray) rfl (by kernel_rfl) (by kernel_rfl) (by kernel_rfl) (fun _ _ _ h => h) (yields_row (by rfl) 28 _ rfl b9 rfl 28 (p.d.map (Value.int .u8)).toArray (0, 0) _ (fun w hSw => hSw.1) Tryd.underlying28 rfl hds) (by assumption) ?_
      try simp only [Act.put, List.getElem_toArray, List.getElem_cons_zero, List.getElem_cons_succ, List.setIfInBounds_toArray, List.set_cons_zero, List.set_cons_succ]
      refine wpAnyH_take (i := 4) (v := ?_) rfl (by kernel_rfl) (by kernel_rfl) (by kernel_rfl) (fun _ _ _ h => h) (Or.inl ⟨by rfl, ?_⟩) (by assumption) ?_
      rotate_left 1
      · intro w hSw
        go_simp
        try with_reducible rfl
      try simp only [Act.put, List.getElem_toArray, List.getElem_cons_zero, List.getElem_cons_succ, List.setIfInBounds_toArray, List.set_cons_zero, List.set_cons_succ]
      refine wpAnyH_take (i := 5) (v := ?_) rfl (by kernel_rfl) (by kernel_rfl) (by kernel_rfl) (fun _ _ _ h => h) (Or.inl ⟨by rfl, ?_⟩) (by assumption) ?_
      rotate_left 1
      · intro w hSw
        go_simp
        try with_reducible rfl
      try simp only [Act.put, List.getElem_toArray, List.getElem_cons_zero, List.getElem_cons_succ, List.setIfInBounds_toArray, List.set_cons_zero, List.set_cons_succ]
      refine wpAnyH_take (i := 6) (v := ?_) rfl (by kernel_rfl) (by kernel_rfl) (by kernel_rfl) (fun _ _ _ h => h) (Or.inl ⟨by rfl, ?_⟩) (by assumption) ?_
      rotate_left 1
      · intro w hSw
        go_simp
        try with_reducible rfl
      try simp only [Act.put, List.getElem_toArray, List.getElem_cons_zero, List.getElem_cons_succ, List.setIfInBounds_toArray, List.set_cons_zero, List.set_cons_succ]
      refine wpAnyH_take (i := 7) (v := ?_) rfl (by kernel_rfl) (by kernel_rfl) (by kernel_rfl) (fun _ _ _ h => h) (Or.inl ⟨by rfl, ?_⟩) (by assumption) ?_
      rotate_left 1
      · intro w hSw
        go_simp
        try with_reducible rfl
      try simp only [Act.put, List.getElem_toArray, List.getElem_cons_zero, List.getElem_cons_succ, List.setIfInBounds_toArray, List.set_cons_zero, List.set_cons_succ]
      refine wpAnyH_take (i := 8) (v := .agg (p.d.map (Value.int .u8)).toArray) rfl (by kernel_rfl) (by kernel_rfl) (by kernel_rfl) (fun _ _ _ h => h) (yieldsIf_load_mid (by rfl) 28 _ rfl g (j * 33) rfl (p.d.map (Value.int .u8)) _ (fun w hSw => hSw.2) Tryd.underlying28 rfl hi28) (by assumption) ?_
      try simp only [Act.put, List.getElem_toArray, List.getElem_cons_zero, List.getElem_cons_succ, List.setIfInBounds_toArray, List.set_cons_zero, List.set_cons_succ]
      refine wpAnyH_take (i := 9) (v := ?_) rfl (by kernel_rfl) (by kernel_rfl) (by kernel_rfl) (fun _ _ _ h => h) (Or.inl ⟨by rfl, ?_⟩) (by assumption) ?_
      rotate_left 1
      · intro w hSw
        have hq := HEQD.out w
        go_simp
        try with_reducible rfl
      try simp only [Act.put, List.getElem_toArray, List.getElem_cons_zero, List.getElem_cons_succ, List.setIfInBounds_toArray, List.set_cons_zero, List.set_cons_succ]
      refine wpAnyH_take (i := 10) (v := ?_) rfl (by kernel_rfl) (by kernel_rfl) (by kernel_rfl) (fun _ _ _ h => h) (Or.inl ⟨by rfl, ?_⟩) (by assumption) ?_
      rotate_left 1
      · intro w hSw
        go_simp
        try with_reducible rfl
      try simp only [Act.put, List.getElem_toArray, List.getElem_cons_zero, List.getElem_cons_succ, List.setIfInBounds_toArray, List.set_cons_zero, List.set_cons_succ]
      refine wpAnyH_take (i := 11) (v := ?_) rfl (by kernel_rfl) (by kernel_rfl) (by kernel_rfl) (fun _ _ _ h => h) (Or.inl ⟨by rfl, ?_⟩) (by assumption) ?_
      rotate_left 1
      · intro w hSw
        go_simp
        try with_reducible rfl
      try simp only [Act.put, List.getElem_toArray, List.getElem_cons_zero, List.getElem_cons_succ, List.setIfInBounds_toArray, List.set_cons_zero, List.set_cons_succ]
      refine wpAnyH_take (i := 12) (v := ?_) rfl (by kernel_rfl) (by kernel_rfl) (by kernel_rfl) (fun _ _ _ h => h) (Or.inl ⟨by rfl, ?_⟩) (by assumption) ?_
      rotate_left 1
      · intro w hSw
        go_simp
        try with_reducible rfl
      try simp only [Act.put, List.getElem_toArray, List.getElem_cons_zero, List.getElem_cons_succ, List.setIfInBounds_toArray, List.set_cons_zero, List.set_cons_succ]
      refine wpAnyH_take (i := 13) (v := .agg (p.d.map (Value.int .u8)).toArray) rfl (by kernel_rfl) (by kernel_rfl) (by kernel_rfl) (fun _ _ _ h => h) (yields_row (by rfl) 28 _ rfl b9 rfl 28 (p.d.map (Value.int .u8)).toArray (0, 0) _ (fun w hSw => hSw.1) Tryd.underlying28 rfl hds) (by assumption) ?_
      try simp only [Act.put, List.getElem_toArray, List.getElem_cons_zero, List.getElem_cons_succ, List.setIfInBounds_toArray, List.set_cons_zero, List.set_cons_succ]
      refine wpAnyH_take (i := 15) (v := ?_) rfl (by kernel_rfl) (by kernel_rfl) (by kernel_rfl) (fun _ _ _ h => h) (Or.inl ⟨by rfl, ?_⟩) (by assumption) ?_
      rotate_left 1
      · intro w hSw
        go_simp
        try with_reducible rfl
      try simp only [Act.put, List.getElem_toArray, List.getElem_cons_zero, List.getElem_cons_succ, List.setIfInBounds_toArray, List.set_cons_zero, List.set_cons_succ]
      refine wpAnyH_ready (rs := [14]) (by kernel_rfl) (by simp) ?_
      refine AllReadyH.cons rfl (fun K hK => ?_) AllReadyH.nil
      go_simp
      refine (HSP6.out w6.drew (HS6.out.kept (Kept.refl (fun _ => False) w6).drew (fun _ _ f => f))).mono ?_
      rintro e w7 ⟨rfl, hk7⟩
      have hk7' : Kept (fun _ => False) w6 w7 := (Kept.refl _ w6).drew.trans hk7
      have HS7 := hid_of (HS6.out.kept hk7' (fun _ _ f => f))
      have HK7 := hid_of (HK6.out.trans (hk7'.mono (fun _ _ f => f.elim)))
      have HH7 : w7.heap[b9]? = some (.cells (p.d.map (Value.int .u8)).toArray 28 (0, 0)) ∧ w7.rangeAt g (j * 33) (p.d.map (Value.int .u8)) := ⟨(hk7'.block _ (heap_lt HD6.out) (fun f => f)).trans HD6.out, fun i u hi => hk7'.cell (HRA6.out i u hi) (fun f => f)⟩
      clear hk7 hk7'
      refine hK.out _ _ HH7 (fun hHeld => ?_)
      clear hK K
      try simp only [Act.put, List.getElem_toArray, List.getElem_cons_zero, List.getElem_cons_succ, List.setIfInBounds_toArray, List.set_cons_zero, List.set_cons_succ]
      refine wpAnyH_take (i := 16) (v := ?_) rfl (by kernel_rfl) (by kernel_rfl) (by kernel_rfl) (fun _ _ _ h => h) (Or.inl ⟨by rfl, ?_⟩) (by assumption) ?_
      rotate_left 1
      · intro w hSw
        go_simp
        try with_reducible rfl
      try simp only [Act.put, List.getElem_toArray, List.getElem_cons_zero, List.getElem_cons_succ, List.setIfInBounds_toArray, List.set_cons_zero, List.set_cons_succ]
      refine wpAnyH_take (i := 17) (v := ?_) rfl (by kernel_rfl) (by kernel_rfl) (by kernel_rfl) (fun _ _ _ h => h) (Or.inl ⟨by rfl, ?_⟩) (by assumption) ?_
      rotate_left 1
      · intro w hSw
        go_simp
        try with_reducible rfl
      try simp only [Act.put, List.getElem_toArray, List.getElem_cons_zero, List.getElem_cons_succ, List.setIfInBounds_toArray, List.set_cons_zero, List.set_cons_succ]
      refine wpAnyH_done (by kernel_rfl) ?_ _
      go_wp2
      go_roundw
      case rel => exact ⟨j + 1, by omega, by go_num, by have := HS7.out; rw [gp_step] at this; exact this, HK7.out⟩
      case measure => simp [intOf]; omega
    · have hjI : ¬ (j : Int) < (ps.length : Int) := by omega
      obtain rfl : j = ps.length := by omega
      have HSj := hid_of hSj
      have HKj := hid_of hKj
      clear hSj hKj
      go_wp2
      go_ret
      exact ⟨rfl, HSj.out, HKj.out⟩
end Go.Proofs.YtjdbmjkidljhpaaDoor

namespace Go.Proofs.YtjdbmjkidljhpaaDoor
open Go.RowKit
set_option linter.unusedVariables false
set_option linter.unusedSimpArgs false
set_option maxRecDepth 100000

set_option maxHeartbeats 4000000 in
theorem plant_arg {w : World} {s : Nat} {mv : Value} {σ : Sg} (h : Stor w s mv σ) (d : List Int) (hd : d.length = 32) (bv : Value) (xs : List Int) (hx : BIn w bv xs) (hn : xs.length ≤ 140737488355328) (hfit : fitsL d σ.wd = false) :
    Calls Tryd.prog 11 #[.pointer (some ⟨s, 0, none⟩), dv d, bv] w fun e w' => e = .returned (.int .i64 1) ∧ Kept (fun _ => False) w w' := by
  obtain ⟨bo, bc, hbv, _, _⟩ := id hx
  subst hbv
  have hds := size28_of d hd
  have HFI := hid_of (fun W => fits_any d σ.wd hd W)
  rw [hfit] at HFI
  have HW0 : Hid (w.cell? ⟨s, 0, none⟩ = some (.int .i64 σ.wd)) := h.cell 0
  clear h hx
  unfold dv
  clear hfit
  generalize (d.map (Value.int .u8)).toArray = ds at *
  have HKA : Hid (Kept (fun _ => False) w (w.alloc (.cells ds 28))) := (Kept.refl _ w).alloc _
  have HDA : Hid ((w.alloc (.cells ds 28)).heap[w.heap.size]? = some (.cells ds 28 (0, 0))) := alloc_new _ _ rfl
  go_enter Tryd.func11, Tryd.ntmps11
  go_wp2
  generalize w.alloc (.cells ds 28) = wA at *
  have cA := HKA.out.cell HW0.out (fun f => f)
  refine wp_region_held_drew (S := fun w' => w'.cell? ⟨s, 0, none⟩ = some (.int .i64 σ.wd) ∧ w'.heap[w.heap.size]? = some (.cells ds 28 (0, 0))) (by kernel_rfl) ⟨cA, HDA.out⟩ (fun hHeld => ?_)
  refine wpAnyH_take (i := 0) (v := .agg ds) rfl (by kernel_rfl) (by kernel_rfl) (by kernel_rfl) (fun _ _ _ h => h) (yields_row (by rfl) 28 _ rfl w.heap.size rfl 28 ds (0, 0) _ (fun w hSw => hSw.2) Tryd.underlying28 rfl hds) (by assumption) ?_
  try simp only [Act.put, List.getElem_toArray, List.getElem_cons_zero, List.getElem_cons_succ, List.setIfInBounds_toArray, List.set_cons_zero, List.set_cons_succ]
  refine wpAnyH_take (i := 1) (v := ?_) rfl (by kernel_rfl) (by kernel_rfl) (by kernel_rfl) (fun _ _ _ h => h) (Or.inl ⟨by rfl, ?_⟩) (by assumption) ?_
  rotate_left 1
  · intro w hSw
    obtain ⟨s1, s2⟩ := hSw
    go_simp
    try with_reducible rfl
  try simp only [Act.put, List.getElem_toArray, List.getElem_cons_zero, List.getElem_cons_succ, List.setIfInBounds_toArray, List.set_cons_zero, List.set_cons_succ]
  refine wpAnyH_take (i := 2) (v := ?_) rfl (by kernel_rfl) (by kernel_rfl) (by kernel_rfl) (fun _ _ _ h => h) (Or.inl ⟨by rfl, ?_⟩) (by assumption) ?_
  rotate_left 1
  · intro w hSw
    obtain ⟨s1, s2⟩ := hSw
    go_simp
    try with_reducible rfl
  try simp only [Act.put, List.getElem_toArray, List.getElem_cons_zero, List.getElem_cons_succ, List.setIfInBounds_toArray, List.set_cons_zero, List.set_cons_succ]
  refine wpAnyH_take (i := 3) (v := ?_) rfl (by kernel_rfl) (by kernel_rfl) (by kernel_rfl) (fun _ _ _ h => h) (Or.inl ⟨by rfl, ?_⟩) (by assumption) ?_
  rotate_left 1
  · intro w hSw
    obtain ⟨s1, s2⟩ := hSw
    go_simp
    try with_reducible rfl
  try simp only [Act.put, List.getElem_toArray, List.getElem_cons_zero, List.getElem_cons_succ, List.setIfInBounds_toArray, List.set_cons_zero, List.set_cons_succ]
  refine wpAnyH_take (i := 4) (v := ?_) rfl (by kernel_rfl) (by kernel_rfl) (by kernel_rfl) (fun _ _ _ h => h) (Or.inl ⟨by rfl, ?_⟩) (by assumption) ?_
  rotate_left 1
  · intro w hSw
    obtain ⟨s1, s2⟩ := hSw
    go_simp
    try with_reducible rfl
  try simp only [Act.put, List.getElem_toArray, List.getElem_cons_zero, List.getElem_cons_succ, List.setIfInBounds_toArray, List.set_cons_zero, List.set_cons_succ]
  refine wpAnyH_ready (rs := [5]) (by kernel_rfl) (by simp) ?_
  refine AllReadyH.cons rfl (fun K hK => ?_) AllReadyH.nil
  go_simp
  refine (HFI.out _).mono ?_
  rintro e w1 ⟨rfl, hk1⟩
  have hk1' : Kept (fun _ => False) wA w1 := (Kept.refl _ wA).drew.trans hk1
  have HKB := hid_of (HKA.out.trans hk1')
  have HDB := hid_of ((hk1'.block _ (heap_lt HDA.out) (fun f => f)).trans HDA.out)
  have cB := hk1'.cell cA (fun f => f)
  clear hk1 hk1'
  refine hK.out _ _ ⟨cB, HDB.out⟩ (fun hHeld => ?_)
  clear hK K
  try simp only [Act.put, List.getElem_toArray, List.getElem_cons_zero, List.getElem_cons_succ, List.setIfInBounds_toArray, List.set_cons_zero, List.set_cons_succ]
  refine wpAnyH_take (i := 6) (v := ?_) rfl (by kernel_rfl) (by kernel_rfl) (by kernel_rfl) (fun _ _ _ h => h) (Or.inl ⟨by rfl, ?_⟩) (by assumption) ?_
  rotate_left 1
  · intro w hSw
    go_simp
    try with_reducible rfl
  try simp only [Act.put, List.getElem_toArray, List.getElem_cons_zero, List.getElem_cons_succ, List.setIfInBounds_toArray, List.set_cons_zero, List.set_cons_succ]
  refine wpAnyH_done (by kernel_rfl) ?_ _
  go_wp2
  go_ret
  exact ⟨rfl, HKB.out⟩

set_option maxHeartbeats 4000000 in
theorem plant_full {w : World} {s : Nat} {mv : Value} {σ : Sg} (h : Stor w s mv σ) (d : List Int) (hd : d.length = 32) (bv : Value) (xs : List Int) (hx : BIn w bv xs) (hn : xs.length ≤ 140737488355328) (hfit : fitsL d σ.wd = true) (hxr : ∀ x ∈ xs, 0 ≤ x ∧ x < 256) (hdr : ∀ x ∈ d, 0 ≤ x ∧ x < 256) (hnl : xs.length ≤ 1048576) (hu : 0 ≤ σ.us) (hu2 : σ.us ≤ 1099511627776) (hsp : 0 ≤ σ.sp) (hsp2 : σ.sp ≤ 1099511627776) (hov : σ.cp < usedOf σ d xs) (hxs : xs ≠ [] → ∀ g, bv.ownBlock = some g → g ≠ s) :
    Calls Tryd.prog 11 #[.pointer (some ⟨s, 0, none⟩), dv d, bv] w fun e w' => e = .returned (.int .i64 43) ∧ Kept (fun _ => False) w w' := by
  obtain ⟨bo, bc, hbv, _, _⟩ := id hx
  subst hbv
  have hds := size28_of d hd
  have HFI := hid_of (fun W => fits_any d σ.wd hd W)
  rw [hfit] at HFI
  have HW0 : Hid (w.cell? ⟨s, 0, none⟩ = some (.int .i64 σ.wd)) := h.cell 0
  have HLAY : Hid (∀ W, Kept (fun _ => False) w W → Calls Tryd.prog 30 #[.pointer (some ⟨s, 0, none⟩), .agg (d.map (Value.int .u8)).toArray, .slice bo xs.length bc] W fun e' w' => e' = .returned (.int .i64 43) ∧ Kept (fun _ => False) W w') := fun W hW => lay_full (h.kept hW (fun _ _ f => f)) d hd _ xs (hx.kept2 hW (fun _ _ _ f => f)) hnl hu hu2 hov
  clear h hx hov hxr hdr
  unfold dv
  clear hfit
  generalize (d.map (Value.int .u8)).toArray = ds at *
  have HKA : Hid (Kept (fun _ => False) w (w.alloc (.cells ds 28))) := (Kept.refl _ w).alloc _
  have HDA : Hid ((w.alloc (.cells ds 28)).heap[w.heap.size]? = some (.cells ds 28 (0, 0))) := alloc_new _ _ rfl
  go_enter Tryd.func11, Tryd.ntmps11
  go_wp2
  generalize w.alloc (.cells ds 28) = wA at *
  have cA := HKA.out.cell HW0.out (fun f => f)
  refine wp_region_held_drew (S := fun w' => w'.cell? ⟨s, 0, none⟩ = some (.int .i64 σ.wd) ∧ w'.heap[w.heap.size]? = some (.cells ds 28 (0, 0))) (by kernel_rfl) ⟨cA, HDA.out⟩ (fun hHeld => ?_)
  refine wpAnyH_take (i := 0) (v := .agg ds) rfl (by kernel_rfl) (by kernel_rfl) (by kernel_rfl) (fun _ _ _ h => h) (yields_row (by rfl) 28 _ rfl w.heap.size rfl 28 ds (0, 0) _ (fun w hSw => hSw.2) Tryd.underlying28 rfl hds) (by assumption) ?_
  try simp only [Act.put, List.getElem_toArray, List.getElem_cons_zero, List.getElem_cons_succ, List.setIfInBounds_toArray, List.set_cons_zero, List.set_cons_succ]
  refine wpAnyH_take (i := 1) (v := ?_) rfl (by kernel_rfl) (by kernel_rfl) (by kernel_rfl) (fun _ _ _ h => h) (Or.inl ⟨by rfl, ?_⟩) (by assumption) ?_
  rotate_left 1
  · intro w hSw
    obtain ⟨s1, s2⟩ := hSw
    go_simp
    try with_reducible rfl
  try simp only [Act.put, List.getElem_toArray, List.getElem_cons_zero, List.getElem_cons_succ, List.setIfInBounds_toArray, List.set_cons_zero, List.set_cons_succ]
  refine wpAnyH_take (i := 2) (v := ?_) rfl (by kernel_rfl) (by kernel_rfl) (by kernel_rfl) (fun _ _ _ h => h) (Or.inl ⟨by rfl, ?_⟩) (by assumption) ?_
  rotate_left 1
  · intro w hSw
    obtain ⟨s1, s2⟩ := hSw
    go_simp
    try with_reducible rfl
  try simp only [Act.put, List.getElem_toArray, List.getElem_cons_zero, List.getElem_cons_succ, List.setIfInBounds_toArray, List.set_cons_zero, List.set_cons_succ]
  refine wpAnyH_take (i := 3) (v := ?_) rfl (by kernel_rfl) (by kernel_rfl) (by kernel_rfl) (fun _ _ _ h => h) (Or.inl ⟨by rfl, ?_⟩) (by assumption) ?_
  rotate_left 1
  · intro w hSw
    obtain ⟨s1, s2⟩ := hSw
    go_simp
    try with_reducible rfl
  try simp only [Act.put, List.getElem_toArray, List.getElem_cons_zero, List.getElem_cons_succ, List.setIfInBounds_toArray, List.set_cons_zero, List.set_cons_succ]
  refine wpAnyH_take (i := 4) (v := ?_) rfl (by kernel_rfl) (by kernel_rfl) (by kernel_rfl) (fun _ _ _ h => h) (Or.inl ⟨by rfl, ?_⟩) (by assumption) ?_
  rotate_left 1
  · intro w hSw
    obtain ⟨s1, s2⟩ := hSw
    go_simp
    try with_reducible rfl
  try simp only [Act.put, List.getElem_toArray, List.getElem_cons_zero, List.getElem_cons_succ, List.setIfInBounds_toArray, List.set_cons_zero, List.set_cons_succ]
  refine wpAnyH_ready (rs := [5]) (by kernel_rfl) (by simp) ?_
  refine AllReadyH.cons rfl (fun K hK => ?_) AllReadyH.nil
  go_simp
  refine (HFI.out _).mono ?_
  rintro e w1 ⟨rfl, hk1⟩
  have hk1' : Kept (fun _ => False) wA w1 := (Kept.refl _ wA).drew.trans hk1
  have HKB := hid_of (HKA.out.trans hk1')
  have HDB := hid_of ((hk1'.block _ (heap_lt HDA.out) (fun f => f)).trans HDA.out)
  have cB := hk1'.cell cA (fun f => f)
  clear hk1 hk1'
  refine hK.out _ _ ⟨cB, HDB.out⟩ (fun hHeld => ?_)
  clear hK K
  try simp only [Act.put, List.getElem_toArray, List.getElem_cons_zero, List.getElem_cons_succ, List.setIfInBounds_toArray, List.set_cons_zero, List.set_cons_succ]
  refine wpAnyH_take (i := 6) (v := ?_) rfl (by kernel_rfl) (by kernel_rfl) (by kernel_rfl) (fun _ _ _ h => h) (Or.inl ⟨by rfl, ?_⟩) (by assumption) ?_
  rotate_left 1
  · intro w hSw
    go_simp
    try with_reducible rfl
  try simp only [Act.put, List.getElem_toArray, List.getElem_cons_zero, List.getElem_cons_succ, List.setIfInBounds_toArray, List.set_cons_zero, List.set_cons_succ]
  refine wpAnyH_done (by kernel_rfl) ?_ _
  go_wp2_with (refine wpList_load_row rfl 28 _ rfl w.heap.size rfl 28 ds (0, 0) _ HDB.out Tryd.underlying28 rfl hds ?_)
  refine (HLAY.out w1 HKB.out).mono ?_
  rintro e w2 ⟨rfl, hk2⟩
  have HE : Hid (Kept (fun _ => False) w w2) := HKB.out.trans hk2
  clear hk2 HLAY
  go_wp2
  go_ret
  exact ⟨rfl, HE.out⟩

/-- What lies there, weighed. -/
def total : List En → Int
  | [] => 0
  | e :: es => ((e.xs.length : Int) + 32) + total es
def costAt (es : List En) (d : List Int) : Int := match look es d with | some e => (e.xs.length : Int) + 32 | none => 0
theorem total_nonneg : ∀ es : List En, 0 ≤ total es
  | [] => Int.le_refl 0
  | e :: es => by
    have := total_nonneg es
    rw [total]
    omega
theorem total_lays : ∀ (es : List En) (e : En), total (lays es e) = total es + ((e.xs.length : Int) + 32) - costAt es e.k
  | [], e => by simp [lays, total, costAt, look]
  | x :: es, e => by
    rw [lays]
    by_cases h : e.k = x.k
    · rw [if_pos h]
      simp only [total, costAt, look, if_pos h]
      omega
    · have ih := total_lays es e
      rw [if_neg h]
      simp only [total, costAt, look, if_neg h] at ih ⊢
      omega
theorem total_drops : ∀ (es : List En) (d : List Int), total (drops es d) = total es - costAt es d
  | [], d => rfl
  | x :: es, d => by
    rw [drops]
    by_cases h : d = x.k
    · rw [if_pos h]
      simp only [total, costAt, look, if_pos h]
      omega
    · have ih := total_drops es d
      rw [if_neg h]
      simp only [total, costAt, look, if_neg h] at ih ⊢
      omega
theorem cost_le : ∀ (es : List En) (d : List Int), costAt es d ≤ total es
  | [], d => Int.le_refl 0
  | x :: es, d => by
    have ih := cost_le es d
    have h0 := total_nonneg es
    by_cases h : d = x.k
    · simp only [total, costAt, look, if_pos h]
      omega
    · simp only [total, costAt, look, if_neg h] at ih ⊢
      omega
theorem look_lays_ne : ∀ (es : List En) (e : En) (d' : List Int), d' ≠ e.k → look (lays es e) d' = look es d'
  | [], e, d', h => by
    show (if d' = e.k then some e else look [] d') = look [] d'
    rw [if_neg h]
  | x :: es, e, d', h => by
    rw [lays]
    by_cases hk : e.k = x.k
    · rw [if_pos hk, look, look, if_neg h, if_neg (fun q => h (q.trans hk.symm))]
    · rw [if_neg hk, look, look, look_lays_ne es e d' h]
/-- A Store in order: its numbers stay small (at most n calls so far). -/
structure Sane (k n : Nat) (σ : Sg) : Prop where
  wd : σ.wd = k
  us : σ.us = total σ.es
  top : σ.us ≤ 67108864
  cp : σ.cp ≤ 67108864
  sp : 0 ≤ σ.sp ∧ σ.sp ≤ n
  gt : 0 ≤ σ.gt ∧ σ.gt ≤ n
  pt : 0 ≤ σ.pt ∧ σ.pt ≤ n
theorem sane_new (k : Nat) (cp : Int) (h : cp ≤ 67108864) : Sane k 0 (Sg.new k cp) := ⟨rfl, rfl, by show (0 : Int) ≤ 67108864; decide, h, ⟨Int.le_refl 0, Int.le_refl 0⟩, ⟨Int.le_refl 0, Int.le_refl 0⟩, ⟨Int.le_refl 0, Int.le_refl 0⟩⟩
theorem Sane.us0 {k n : Nat} {σ : Sg} (h : Sane k n σ) : 0 ≤ σ.us := by rw [h.us]; exact total_nonneg _
theorem used_total (σ : Sg) (d : List Int) (bv : Value) (xs : List Int) (st : Int) (born : Nat) (h : σ.us = total σ.es) : usedOf σ d xs = total (lays σ.es ⟨d, bv, xs, st, born⟩) := by
  rw [total_lays]
  unfold usedOf costAt
  rw [h]
  rfl
theorem Sane.put1 {k n : Nat} {σ : Sg} (h : Sane k n σ) : Sane k (n + 1) σ.put1 :=
  ⟨h.wd, h.us, h.top, h.cp, ⟨h.sp.1, by have := h.sp.2; show σ.sp ≤ _; omega⟩, ⟨h.gt.1, by have := h.gt.2; show σ.gt ≤ _; omega⟩, ⟨by have := h.pt.1; show 0 ≤ σ.pt + 1; omega, by have := h.pt.2; show σ.pt + 1 ≤ _; omega⟩⟩
theorem Sane.get1 {k n : Nat} {σ : Sg} (h : Sane k n σ) : Sane k (n + 1) σ.get1 :=
  ⟨h.wd, h.us, h.top, h.cp, ⟨h.sp.1, by have := h.sp.2; show σ.sp ≤ _; omega⟩, ⟨by have := h.gt.1; show 0 ≤ σ.gt + 1; omega, by have := h.gt.2; show σ.gt + 1 ≤ _; omega⟩, ⟨h.pt.1, by have := h.pt.2; show σ.pt ≤ _; omega⟩⟩
theorem Sane.lay {k n B : Nat} {σ σ' : Sg} {d xs : List Int} (h : Sane k n σ) (hl : LayOk B σ σ' d xs) (hov : usedOf σ d xs ≤ σ.cp) : Sane k (n + 1) σ' := by
  obtain ⟨bv, born, _, rfl⟩ := hl
  exact ⟨h.wd, used_total σ d bv xs _ born h.us, Int.le_trans hov h.cp, h.cp, ⟨by have := h.sp.1; show 0 ≤ σ.sp + 1; omega, by have := h.sp.2; show σ.sp + 1 ≤ _; omega⟩, ⟨h.gt.1, by have := h.gt.2; show σ.gt ≤ _; omega⟩, ⟨h.pt.1, by have := h.pt.2; show σ.pt ≤ _; omega⟩⟩
theorem Sane.evict {k n : Nat} {σ : Sg} (h : Sane k n σ) (d : List Int) (e : En) (hl : look σ.es d = some e) : Sane k n { σ with us := σ.us - ((e.xs.length : Int) + 32), es := drops σ.es d } := by
  have hc : costAt σ.es d = (e.xs.length : Int) + 32 := by unfold costAt; rw [hl]
  refine ⟨h.wd, ?_, ?_, h.cp, h.sp, h.gt, h.pt⟩
  · show σ.us - ((e.xs.length : Int) + 32) = total (drops σ.es d)
    rw [total_drops, hc, h.us]
  · have := h.top
    show σ.us - ((e.xs.length : Int) + 32) ≤ 67108864
    omega
theorem Sane.more {k n m : Nat} {σ : Sg} (h : Sane k n σ) (hm : n ≤ m) : Sane k m σ :=
  ⟨h.wd, h.us, h.top, h.cp, ⟨h.sp.1, by have := h.sp.2; omega⟩, ⟨h.gt.1, by have := h.gt.2; omega⟩, ⟨h.pt.1, by have := h.pt.2; omega⟩⟩
theorem Sane.limit {k n : Nat} {σ : Sg} (h : Sane k n σ) (c : Int) (hc : c ≤ 67108864) : Sane k n { σ with cp := c } := ⟨h.wd, h.us, h.top, hc, h.sp, h.gt, h.pt⟩
theorem Sane.gp {k n : Nat} {σ : Sg} (h : Sane k n σ) (j : Nat) : Sane k (n + j) (σ.gp j) :=
  ⟨h.wd, h.us, h.top, h.cp, ⟨h.sp.1, by have := h.sp.2; show σ.sp ≤ _; omega⟩, ⟨by have := h.gt.1; show 0 ≤ σ.gt + (j : Int); omega, by have := h.gt.2; show σ.gt + (j : Int) ≤ _; omega⟩, ⟨by have := h.pt.1; show 0 ≤ σ.pt + (j : Int); omega, by have := h.pt.2; show σ.pt + (j : Int) ≤ _; omega⟩⟩
theorem Holds.lay {k B : Nat} {σ σ' : Sg} {d xs : List Int} {ps : List Pt} (h : Holds k σ.es ps) (hl : LayOk B σ σ' d xs) (hne : ∀ p ∈ ps, p.d ≠ d) : Holds k σ'.es ps := by
  obtain ⟨bv, born, _, rfl⟩ := hl
  intro p hp
  obtain ⟨h1, e, h2, h3⟩ := h p hp
  exact ⟨h1, e, by rw [← h2]; exact look_lays_ne σ.es ⟨d, bv, xs, σ.sp + 1, born⟩ p.d (hne p hp), h3⟩
theorem Holds.others {k : Nat} {es : List En} {ps : List Pt} (h : Holds k es ps) (d : List Int) : Holds k es (others ps d) := fun p hp => h p ((List.mem_filter.1 hp).1)
theorem others_ne {ps : List Pt} {d : List Int} : ∀ p ∈ others ps d, p.d ≠ d := fun p hp => by
  have := (List.mem_filter.1 hp).2
  simpa using this
theorem laid_found {B : Nat} {σ σ' : Sg} {d xs : List Int} (hl : LayOk B σ σ' d xs) : ∃ e, look σ'.es d = some e ∧ e.xs = xs := by
  obtain ⟨bv, born, _, rfl⟩ := hl
  obtain ⟨b, hb⟩ := look_lays σ.es ⟨d, bv, xs, σ.sp + 1, born⟩
  exact ⟨_, hb, rfl⟩
/-- How a Put leaves the Store. -/
structure After (w w' : World) (s : Nat) (mv mv' : Value) (k n : Nat) (σ σ' : Sg) : Prop where
  st : Stor w' s mv' σ'
  kp : Kept (Own s mv) w w'
  mv : mv' = mv ∨ ∃ r, mv' = .map (some r) ∧ w.heap.size ≤ r
  sane : Sane k n σ'
  fr : ∀ e ∈ σ'.es, e ∈ σ.es ∨ ∀ g, e.bv.ownBlock = some g → w.heap.size ≤ g
theorem lay_fr {B : Nat} {σ σ' : Sg} {d xs : List Int} (hl : LayOk B σ σ' d xs) (C : Nat) (hC : C ≤ B) : ∀ e ∈ σ'.es, e ∈ σ.es ∨ ∀ g, e.bv.ownBlock = some g → C ≤ g := by
  obtain ⟨bv, born, h1, rfl⟩ := hl
  intro e he
  rcases lays_mem _ _ _ he with h | ⟨b, rfl⟩
  · exact .inl h
  · exact .inr (fun g hg => Nat.le_trans hC (h1 g hg))
theorem kept_of_s {s : Nat} {mv : Value} {w w' : World} (h : Kept (fun k => k = s) w w') : Kept (Own s mv) w w' := h.mono (fun _ _ e => .inl e)
theorem kept_of_no {s : Nat} {mv : Value} {w w' : World} (h : Kept (fun _ => False) w w') : Kept (Own s mv) w w' := h.mono (fun _ _ e => e.elim)

theorem put_any (k n : Nat) (h1 : 1 ≤ k) (h2 : k ≤ 32) (hnn : n ≤ 1000000) (σ : Sg) (hS : Sane k n σ) (xs : List Int) (hxr : ∀ x ∈ xs, 0 ≤ x ∧ x < 256) (hn : xs.length ≤ 1048576) :
    ∃ (q : Int) (dr : List Int), dr.length = 32 ∧ (q = 0 → dr = frontOf k xs) ∧ ∀ (w : World) (s : Nat) (mv bv : Value), Stor w s mv σ → Laid w → s ≠ 0 → BIn w bv xs →
      Calls Tryd.prog 10 #[.pointer (some ⟨s, 0, none⟩), bv] w fun e w' => e = .returned (.tuple #[dv dr, .int .i64 q]) ∧ ∃ mv' σ', After w w' s mv mv' k (n + 2) σ σ' ∧ (∀ ps, Holds k σ.es ps → Holds k σ'.es ps) ∧ (q = 0 → ∃ e, look σ'.es (frontOf k xs) = some e ∧ e.xs = xs) := by
  have hu := hS.us0
  have hu2 := hS.top
  have hp := hS.pt
  have hsp := hS.sp
  have hxs : ∀ (w : World) (s : Nat) (mv bv : Value), Stor w s mv σ → BIn w bv xs → (xs ≠ [] → ∀ g, bv.ownBlock = some g → g ≠ s) := fun w s mv bv hst hb h0 g hg e => by
    obtain ⟨o, x, hc⟩ := hb.u8 h0 g hg
    exact hst.no8 hc (.inl e)
  cases hl : look σ.es (frontOf k xs) with
  | none =>
    have hne : ∀ ps, Holds k σ.es ps → ∀ p ∈ ps, p.d ≠ frontOf k xs := fun ps hh p hpp e => by
      obtain ⟨_, e', h', _⟩ := hh p hpp
      rw [e, hl] at h'
      cases h'
    by_cases hov : usedOf σ (frontOf k xs) xs ≤ σ.cp
    · refine ⟨0, frontOf k xs, frontOf_len k xs h2, fun _ => rfl, fun w s mv bv hst hL hs0 hb => ?_⟩
      refine (put_ok0 hst hL hs0 k hS.wd h1 h2 bv xs hb hxr hn (hxs w s mv bv hst hb) hp.1 (by omega) hl hu (by omega) hsp.1 (by omega) hov).mono fun e w' ⟨he, mv', σ', hlo, hst', hk, hmv⟩ => ?_
      exact ⟨he, mv', σ', ⟨hst', hk, hmv, hS.put1.lay hlo hov, lay_fr hlo _ (by omega)⟩, fun ps hh => Holds.lay (σ := σ.put1) hh hlo (hne ps hh), fun _ => laid_found hlo⟩
    · refine ⟨43, zeros32, rfl, (fun h => absurd h (by decide)), fun w s mv bv hst hL hs0 hb => ?_⟩
      refine (put_full0 hst hL hs0 k hS.wd h1 h2 bv xs hb hxr hn (hxs w s mv bv hst hb) hp.1 (by omega) hl hu (by omega) (by omega)).mono fun e w' ⟨he, hst', hk⟩ => ?_
      exact ⟨he, mv, σ.put1, ⟨hst', kept_of_s hk, .inl rfl, hS.put1.more (by omega), fun e he => .inl he⟩, fun ps hh => hh, fun h => absurd h (by decide)⟩
  | some e0 =>
    by_cases hex : e0.xs = xs
    · refine ⟨0, frontOf k xs, frontOf_len k xs h2, fun _ => rfl, fun w s mv bv hst hL hs0 hb => ?_⟩
      refine (put_same hst hL hs0 k hS.wd h1 h2 bv xs hb hxr hn (hxs w s mv bv hst hb) hp.1 (by omega) e0 hl hex).mono fun e w' ⟨he, hst', hk⟩ => ?_
      exact ⟨he, mv, σ.put1, ⟨hst', kept_of_s hk, .inl rfl, hS.put1.more (by omega), fun e he => .inl he⟩, fun ps hh => hh, fun _ => ⟨e0, hl, hex⟩⟩
    · cases hwh : wholeB k σ.es (frontOf k xs) with
      | true =>
        refine ⟨44, zeros32, rfl, (fun h => absurd h (by decide)), fun w s mv bv hst hL hs0 hb => ?_⟩
        refine (put_clash hst hL hs0 k hS.wd h1 h2 bv xs hb hxr hn (hxs w s mv bv hst hb) hp.1 (by omega) e0 hl hex hwh).mono fun e w' ⟨he, hst', hk⟩ => ?_
        exact ⟨he, mv, σ.put1, ⟨hst', kept_of_s hk, .inl rfl, hS.put1.more (by omega), fun e he => .inl he⟩, fun ps hh => hh, fun h => absurd h (by decide)⟩
      | false =>
        have hne : ∀ ps, Holds k σ.es ps → ∀ p ∈ ps, p.d ≠ frontOf k xs := fun ps hh p hpp e => by
          obtain ⟨h', e', h'', h3⟩ := hh p hpp
          have := (holds_whole h' h'' h3).1
          rw [e, hwh] at this
          cases this
        by_cases hov : usedOf σ (frontOf k xs) xs ≤ σ.cp
        · refine ⟨0, frontOf k xs, frontOf_len k xs h2, fun _ => rfl, fun w s mv bv hst hL hs0 hb => ?_⟩
          refine (put_ok1 hst hL hs0 k hS.wd h1 h2 bv xs hb hxr hn (hxs w s mv bv hst hb) hp.1 (by omega) e0 hl hex hwh hu (by omega) hsp.1 (by omega) hov).mono fun e w' ⟨he, mv', σ', hlo, hst', hk, hmv⟩ => ?_
          exact ⟨he, mv', σ', ⟨hst', hk, hmv, hS.put1.lay hlo hov, lay_fr hlo _ (by omega)⟩, fun ps hh => Holds.lay (σ := σ.put1) hh hlo (hne ps hh), fun _ => laid_found hlo⟩
        · refine ⟨43, zeros32, rfl, (fun h => absurd h (by decide)), fun w s mv bv hst hL hs0 hb => ?_⟩
          refine (put_full1 hst hL hs0 k hS.wd h1 h2 bv xs hb hxr hn (hxs w s mv bv hst hb) hp.1 (by omega) e0 hl hex hwh hu (by omega) (by omega)).mono fun e w' ⟨he, hst', hk⟩ => ?_
          exact ⟨he, mv, σ.put1, ⟨hst', kept_of_s hk, .inl rfl, hS.put1.more (by omega), fun e he => .inl he⟩, fun ps hh => hh, fun h => absurd h (by decide)⟩

theorem plant_any (k n : Nat) (hnn : n ≤ 1000000) (σ : Sg) (hS : Sane k n σ) (d : List Int) (hd : d.length = 32) (hdr : ∀ x ∈ d, 0 ≤ x ∧ x < 256) (xs : List Int) (hxr : ∀ x ∈ xs, 0 ≤ x ∧ x < 256) (hn : xs.length ≤ 1048576) :
    ∃ q : Int, ∀ (w : World) (s : Nat) (mv bv : Value), Stor w s mv σ → BIn w bv xs →
      Calls Tryd.prog 11 #[.pointer (some ⟨s, 0, none⟩), dv d, bv] w fun e w' => e = .returned (.int .i64 q) ∧ ∃ mv' σ', After w w' s mv mv' k (n + 2) σ σ' ∧ (q ≠ 0 → σ' = σ) ∧ (∀ ps, Holds k σ.es ps → Holds k σ'.es (others ps d)) := by
  have hu := hS.us0
  have hu2 := hS.top
  have hsp := hS.sp
  cases hf : fitsL d σ.wd with
  | false =>
    refine ⟨1, fun w s mv bv hst hb => (plant_arg hst d hd bv xs hb (by omega) hf).mono fun e w' ⟨he, hk⟩ => ?_⟩
    exact ⟨he, mv, σ, ⟨hst.kept hk (fun _ _ f => f), kept_of_no hk, .inl rfl, hS.more (by omega), fun e he => .inl he⟩, fun _ => rfl, fun ps hh => hh.others d⟩
  | true =>
    by_cases hov : usedOf σ d xs ≤ σ.cp
    · refine ⟨0, fun w s mv bv hst hb => ?_⟩
      refine (plant_ok hst d hd bv xs hb (by omega) hf hxr hdr hn hu (by omega) hsp.1 (by omega) hov (fun h0 g hg e => by obtain ⟨o, x, hc⟩ := hb.u8 h0 g hg; exact hst.no8 hc (.inl e))).mono fun e w' ⟨he, mv', σ', hlo, hst', hk, hmv⟩ => ?_
      exact ⟨he, mv', σ', ⟨hst', hk, hmv, (hS.lay hlo hov).more (by omega), lay_fr hlo _ (Nat.le_refl _)⟩, fun h => absurd rfl h, fun ps hh => (hh.others d).lay hlo others_ne⟩
    · refine ⟨43, fun w s mv bv hst hb => ?_⟩
      refine (plant_full hst d hd bv xs hb (by omega) hf hxr hdr hn hu (by omega) hsp.1 (by omega) (by omega) (fun h0 g hg e => by obtain ⟨o, x, hc⟩ := hb.u8 h0 g hg; exact hst.no8 hc (.inl e))).mono fun e w' ⟨he, hk⟩ => ?_
      exact ⟨he, mv, σ, ⟨hst.kept hk (fun _ _ f => f), kept_of_no hk, .inl rfl, hS.more (by omega), fun e he => .inl he⟩, fun _ => rfl, fun ps hh => hh.others d⟩

theorem evict_any (k n : Nat) (σ : Sg) (hS : Sane k n σ) (d : List Int) (hd : d.length = 32) :
    ∃ b : Bool, ∀ (w : World) (s : Nat) (mv : Value), Stor w s mv σ →
      Calls Tryd.prog 13 #[.pointer (some ⟨s, 0, none⟩), dv d] w fun e w' => e = .returned (.bool b) ∧ ∃ σ', After w w' s mv mv k n σ σ' ∧ (∀ ps, Holds k σ.es ps → Holds k σ'.es (others ps d)) := by
  have hu := hS.us0
  have hu2 := hS.top
  cases hl : look σ.es d with
  | none =>
    refine ⟨false, fun w s mv hst => (evict_none hst d hd hl).mono fun e w' ⟨he, hk⟩ => ?_⟩
    exact ⟨he, σ, ⟨hst.kept hk (fun _ _ f => f), kept_of_no hk, .inl rfl, hS, fun e he => .inl he⟩, fun ps hh => hh.others d⟩
  | some e0 =>
    refine ⟨true, fun w s mv hst => (evict_some hst d hd e0 hl (by omega) (by omega)).mono fun e w' ⟨he, hst', hk⟩ => ?_⟩
    refine ⟨he, _, ⟨hst', hk, .inl rfl, hS.evict d e0 hl, fun e he => .inl (drops_mem _ _ _ he)⟩, fun ps hh p hp => ?_⟩
    obtain ⟨h1, e1, h2, h3⟩ := hh p ((List.mem_filter.1 hp).1)
    exact ⟨h1, e1, by rw [← h2]; exact look_drops σ.es d p.d (others_ne p hp), h3⟩

theorem get_any (k n : Nat) (h1 : 1 ≤ k) (h2 : k ≤ 32) (hnn : n ≤ 1000000) (σ : Sg) (hS : Sane k n σ) (d : List Int) (hd : d.length = 32) :
    ∃ (q : Int) (xs : List Int), (q = 0 → frontOf k xs = d) ∧ ∀ (w : World) (s : Nat) (mv : Value), Stor w s mv σ → Laid w → s ≠ 0 → xs.length ≤ 1048576 ∧ (∀ x ∈ xs, 0 ≤ x ∧ x < 256) ∧
      Calls Tryd.prog 15 #[.pointer (some ⟨s, 0, none⟩), dv d] w fun e w' => ∃ v, e = .returned (.tuple #[v, .int .i64 q]) ∧ BIn w' v xs ∧ Stor w' s mv σ.get1 ∧ Kept (fun k => k = s) w w' := by
  have hg := hS.gt
  have hbl : ∀ e, look σ.es d = some e → ∀ (w : World) (s : Nat) (mv : Value), Stor w s mv σ → e.xs.length ≤ 1048576 ∧ ∀ x ∈ e.xs, 0 ≤ x ∧ x < 256 := fun e he w s mv hst => ⟨(hst.blob e (look_mem _ _ _ he).1).2.2.1, (hst.blob e (look_mem _ _ _ he).1).2.1⟩
  cases hl : look σ.es d with
  | none =>
    refine ⟨41, [], (fun h => absurd h (by decide)), fun w s mv hst hL hs0 => ⟨Nat.zero_le _, fun x hx => (by cases hx), (get_missing hst hL hs0 k hS.wd h1 h2 d hd hg.1 (by omega) hl).mono fun e w' ⟨he, hst', hk⟩ => ?_⟩⟩
    exact ⟨_, he, ⟨none, 0, rfl, Nat.le_refl _, .inl rfl⟩, hst', hk⟩
  | some e0 =>
    cases hwh : wholeB k σ.es d with
    | false =>
      refine ⟨42, [], (fun h => absurd h (by decide)), fun w s mv hst hL hs0 => ⟨Nat.zero_le _, fun x hx => (by cases hx), (get_corrupt hst hL hs0 k hS.wd h1 h2 d hd hg.1 (by omega) (by rw [hl]; rfl) hwh).mono fun e w' ⟨he, hst', hk⟩ => ?_⟩⟩
      exact ⟨_, he, ⟨none, 0, rfl, Nat.le_refl _, .inl rfl⟩, hst', hk⟩
    | true =>
      have hr : rawX σ.es d = e0.xs := by unfold rawX; rw [hl]
      refine ⟨0, e0.xs, fun _ => ?_, fun w s mv hst hL hs0 => ⟨(hbl e0 hl w s mv hst).1, (hbl e0 hl w s mv hst).2, (get_ok hst hL hs0 k hS.wd h1 h2 d hd hg.1 (by omega) hwh).mono fun e w' ⟨v, he, hb, _, hst', hk⟩ => ?_⟩⟩
      · unfold wholeB at hwh
        rw [hl] at hwh
        exact of_decide_eq_true hwh
      · rw [hr] at hb
        exact ⟨v, he, hb, hst', hk⟩
end Go.Proofs.YtjdbmjkidljhpaaDoor

/-
  What code is written on: three sheets.
-/
import Derived.Test.YtfblffledokjkaaDoorUe
import Derived.Test.YtfblffledokjkaaDoorTk
namespace Go.Proofs.YtfblffledokjkaaDoor
open Go.RowKit
set_option linter.unusedVariables false
set_option linter.unusedSimpArgs false
set_option maxRecDepth 100000

abbrev Ln := Int × Int × Int
/-- Parts that lie in boxes stay. -/
def Keep88 (w w' : World) : Prop := ∀ (q : Nat) (cs : Array Value), w.heap[q]? = some (.cells cs 88 (0, 0)) → w'.heap[q]? = some (.cells cs 88 (0, 0))
/-- A sheet: what has been put on it lies there. -/
structure ShOk (ov : Value) (base : Nat) (T : World → List Ln → Prop) : Prop where
  put : ∀ (w : World) (l : List Ln) (part op a : Int) (gw : Nat) (pv ev lv : Value) (nx : Int), l.length ≤ 100 → T w l → w.heap[gw]? = some (.cells #[pv, .int .i64 nx, ev, lv, ov] 98 (0, 0)) →
    Calls Tryd.prog 34 #[.pointer (some ⟨gw, 0, none⟩), .int .i64 part, .int .i64 op, .int .i64 a] w fun e w' => e = .returned (.tuple #[]) ∧ T w' (l ++ [(part, op, a)]) ∧ w'.heap[gw]? = some (.cells #[pv, .int .i64 nx, ev, lv, ov] 98 (0, 0)) ∧ Kept (fun q => base ≤ q) w w' ∧ Keep88 w w'
  kept : ∀ (w w' : World) (l : List Ln) (gw : Nat) (cs : Array Value), T w l → w.heap[gw]? = some (.cells cs 98 (0, 0)) → Kept (fun q => q = gw) w w' → T w' l
theorem m_t (w : World) (a : Nat) : (method 281 90 (.pointer (some ⟨a, 0, none⟩)) "retort/comp.put").run Tryd.prog w = .ok (123, .pointer (some ⟨a, 0, none⟩)) w := by kernel_rfl
theorem m_c (w : World) (a : Nat) : (method 281 71 (.pointer (some ⟨a, 0, none⟩)) "retort/comp.put").run Tryd.prog w = .ok (115, .pointer (some ⟨a, 0, none⟩)) w := by kernel_rfl
theorem m_o (w : World) (a : Nat) : (method 281 84 (.pointer (some ⟨a, 0, none⟩)) "retort/comp.put").run Tryd.prog w = .ok (119, .pointer (some ⟨a, 0, none⟩)) w := by kernel_rfl
set_option maxHeartbeats 1000000 in
theorem put_tally (g : Nat) (n part op a : Int) (w : World) (h : w.heap[g]? = some (.cells #[.int .i64 n] 92 (0, 0))) (hn : 0 ≤ n) (hn1 : n ≤ 1000) :
    Calls Tryd.prog 123 #[.pointer (some ⟨g, 0, none⟩), .int .i64 part, .agg #[.int .i64 op, .int .i64 a]] w fun e w' => e = .returned (.tuple #[]) ∧ w'.heap[g]? = some (.cells #[.int .i64 (n + 1)] 92 (0, 0)) ∧ Kept (fun q => q = g) w w' := by
  obtain ⟨W, hW⟩ : ∃ W, W = w.alloc (.cells #[.int .i64 op, .int .i64 a] 65) := ⟨_, rfl⟩
  have hk : Kept (fun _ => False) w W := by rw [hW]; exact (Kept.refl _ _).alloc _
  have h1 := box_kept hk h (fun f => f)
  have c0 : W.cell? ⟨g, 0, none⟩ = some (.int .i64 n) := cell_block _ _ 0 _ _ _ h1
  have f0 := frozen_block _ _ 0 _ _ h1
  have hw : IntKind.i64.wrap (n + 1) = n + 1 := by simp [IntKind.wrap, IntKind.bits, IntKind.signed]; omega
  have h2 := set_block W g 0 _ _ _ h1 (.int .i64 (n + 1))
  have H2 := hid_of h2
  have HK : Hid (Kept (fun q => q = g) w (W.setCell ⟨g, 0, none⟩ (.int .i64 (n + 1)))) := (hk.mono (fun _ _ f => f.elim)).trans (kept_set W g 0 (.int .i64 (n + 1)))
  clear h hk h1 h2
  go_enter Tryd.func123, Tryd.ntmps123
  go_upto_region 1 with fail
  rw [← hW]
  clear hW
  go_wp2
  generalize W.setCell ⟨g, 0, none⟩ (.int .i64 (n + 1)) = W2 at *
  refine bodyPost_end (results_none (by rfl) _ _ _) rfl ?_
  exact ⟨rfl, H2.out, HK.out⟩
theorem Tryd.info65b : (Tryd.prog.info? 65).map (fun i => (i.zero, i.size, i.bytes)) = some (some (.agg #[.int .i64 0, .int .i64 0]), 2, 16) := by kernel_rfl
theorem Tryd.info3b : (Tryd.prog.info? 3).map (fun i => (i.zero, i.size, i.bytes)) = some (some (.int .i64 0), 1, 8) := by kernel_rfl
theorem push_c {W : World} {base : Nat} {v : Value} {k : Nat} {xs : List Value} (h : W.ownsRow base 65 2 v k xs) (op a : Int) (hb : base ≤ W.heap.size) (hl : k ≤ 9000) :
    ∃ v' w', (Builtin.append_ #[61, 61] 61 #[v, .slice (some ⟨W.heap.size, 0, none⟩) 1 1]).run Tryd.prog (W.alloc (.cells #[.int .i64 op, .int .i64 a] 65)) = .ok v' w' ∧ w'.ownsRow base 65 2 v' (k + 1) (xs ++ [.int .i64 op, .int .i64 a]) ∧ Kept (fun q => v.ownBlock = some q) W w' := by
  obtain ⟨i0, hi, hz0, hz1, hz2⟩ := info_parts Tryd.info65b
  obtain ⟨v', w', hr, h2, h3, h4, _⟩ := append_old (P := Tryd.prog) (W.alloc (.cells #[.int .i64 op, .int .i64 a] 65)) base 61 61 65 i0 _ 2 16 Tryd.underlying61 hi hz0 hz1 hz2 rfl (by decide) v k xs (h.alloc _) ⟨W.heap.size, 0, none⟩ 1 1 [.int .i64 op, .int .i64 a] (by simp) (fun j u hj => by
    have hb2 := heap_alloc_new W (.cells #[.int .i64 op, .int .i64 a] 65)
    rw [Addr.add_lit, Nat.zero_add, cell_block _ _ _ _ _ _ hb2]
    simpa using hj) (fun u hu => by simp at hu; rcases hu with rfl | rfl <;> rfl) (by unfold maxLen; omega) (by omega) (by simp; omega)
  refine ⟨v', w', hr, h2, ?_⟩
  have hk0 : Kept (fun q => v.ownBlock = some q) W (W.alloc (.cells #[.int .i64 op, .int .i64 a] 65)) := (Kept.refl _ _).alloc _
  exact hk0.grown h3 (fun k hk => .inr hk)
theorem push_o {W : World} {base : Nat} {v : Value} {k : Nat} {xs : List Value} (h : W.ownsRow base 3 1 v k xs) (a : Int) (hb : base ≤ W.heap.size) (hl : k ≤ 9000) :
    ∃ v' w', (Builtin.append_ #[53, 53] 53 #[v, .slice (some ⟨W.heap.size, 0, none⟩) 1 1]).run Tryd.prog (W.alloc (.cells #[.int .i64 a] 3)) = .ok v' w' ∧ w'.ownsRow base 3 1 v' (k + 1) (xs ++ [.int .i64 a]) ∧ Kept (fun q => v.ownBlock = some q) W w' := by
  obtain ⟨i0, hi, hz0, hz1, hz2⟩ := info_parts Tryd.info3b
  obtain ⟨v', w', hr, h2, h3, h4, _⟩ := append_old (P := Tryd.prog) (W.alloc (.cells #[.int .i64 a] 3)) base 53 53 3 i0 _ 1 8 Tryd.underlying53 hi hz0 hz1 hz2 rfl (by decide) v k xs (h.alloc _) ⟨W.heap.size, 0, none⟩ 1 1 [.int .i64 a] (by simp) (fun j u hj => by
    have hb2 := heap_alloc_new W (.cells #[.int .i64 a] 3)
    rw [Addr.add_lit, Nat.zero_add, cell_block _ _ _ _ _ _ hb2]
    simpa using hj) (fun u hu => by simp at hu; rcases hu with rfl; rfl) (by unfold maxLen; omega) (by omega) (by simp; omega)
  refine ⟨v', w', hr, h2, ?_⟩
  have hk0 : Kept (fun q => v.ownBlock = some q) W (W.alloc (.cells #[.int .i64 a] 3)) := (Kept.refl _ _).alloc _
  exact hk0.grown h3 (fun k hk => .inr hk)
/-- A row's block holds cells of its elements' type. -/
theorem own_type {w : World} {base e s : Nat} {v : Value} {n : Nat} {xs : List Value} (h : w.ownsRow base e s v n xs) {g : Nat} (hg : v.ownBlock = some g) : ∃ cs f, w.heap[g]? = some (.cells cs e f) := by
  rcases h.2 with ⟨rfl, _⟩ | ⟨g', cap, cur, rfl, _, hh, _⟩
  · cases hg
  · have e : g' = g := Option.some.inj hg
    subst e
    exact ⟨_, _, hh⟩
set_option maxHeartbeats 2000000 in
theorem put_codes (g base : Nat) (part op a : Int) (v : Value) (k : Nat) (xs : List Value) (w : World) (h : w.heap[g]? = some (.cells #[v] 73 (0, 0))) (ho : w.ownsRow base 65 2 v k xs) (hb : base ≤ w.heap.size) (hl : k ≤ 9000) :
    Calls Tryd.prog 115 #[.pointer (some ⟨g, 0, none⟩), .int .i64 part, .agg #[.int .i64 op, .int .i64 a]] w fun e w' => e = .returned (.tuple #[]) ∧ (∃ v', w'.heap[g]? = some (.cells #[v'] 73 (0, 0)) ∧ w'.ownsRow base 65 2 v' (k + 1) (xs ++ [.int .i64 op, .int .i64 a])) ∧ Kept (fun q => q = g ∨ v.ownBlock = some q) w w' := by
  obtain ⟨W, hW⟩ : ∃ W, W = w.alloc (.cells #[.int .i64 op, .int .i64 a] 65) := ⟨_, rfl⟩
  obtain ⟨gx, hgx⟩ : ∃ z, z = w.heap.size := ⟨_, rfl⟩
  have hk : Kept (fun _ => False) w W := by rw [hW]; exact (Kept.refl _ _).alloc _
  have hx : W.heap[gx]? = some (.cells #[.int .i64 op, .int .i64 a] 65 (0, 0)) := by rw [hW, hgx]; exact heap_alloc_new w _
  have hgl : g < gx := by rw [hgx]; exact (Array.getElem?_eq_some_iff.1 h).1
  have h1 := box_kept hk h (fun f => f)
  have ho1 := hk.ownsRow ho (fun _ _ f => f)
  have hbg : ∀ q, v.ownBlock = some q → q < gx := fun q hq => by rw [hgx]; exact (ho.lt q hq).2
  obtain ⟨ao, cv, hv⟩ := ownsRow_shape ho
  have hb1 : base ≤ W.heap.size := Nat.le_trans hb hk.size
  have HK := hid_of hk
  have H1 := hid_of h1
  have HX := hid_of hx
  have HO1 := hid_of ho1
  have HBG := hid_of hbg
  have HB1 := hid_of hb1
  clear hk hx h1 ho1 h ho hb hbg hb1
  subst hv
  go_enter Tryd.func115, Tryd.ntmps115
  go_upto_region 1 with fail
  rw [← hW, ← hgx]
  clear hW hgx
  refine wp_region_held_drew (S := fun w' => Kept (fun q => q = g ∨ (Value.slice ao k cv).ownBlock = some q) W w') (by kernel_rfl) ((Kept.refl _ _).drew) (fun hHeld => ?_)
  have hKd : Kept (fun _ => False) W W.drew := (Kept.refl _ _).drew
  generalize W.drew = wd at *
  have HSX : Hid (∀ w', Kept (fun q => q = g ∨ (Value.slice ao k cv).ownBlock = some q) W w' → w'.cell? ⟨gx, 0, none⟩ = some (.int .i64 op) ∧ w'.cell? ⟨gx, 1, none⟩ = some (.int .i64 a)) := fun w' hw => by
    have h9 := box_kept hw HX.out (fun e => by rcases e with e | e; omega; have := HBG.out gx e; omega)
    exact ⟨cell_block _ _ 0 _ _ _ h9, cell_block _ _ 1 _ _ _ h9⟩
  have hgd := box_kept hKd H1.out (fun f => f)
  have cg : wd.cell? ⟨g, 0, none⟩ = some (.slice ao k cv) := cell_block _ _ 0 _ _ _ hgd
  have hod := hKd.ownsRow HO1.out (fun _ _ f => f)
  obtain ⟨v9, w9, hr9, ho9, hk9⟩ := push_c hod op a (Nat.le_trans HB1.out hKd.size) hl
  have hg9 := box_kept hk9 hgd (fun e => by
    obtain ⟨cs, f, h9⟩ := own_type hod e
    rw [hgd] at h9
    simp at h9)
  have f9 := frozen_block _ g 0 _ _ hg9
  have c9 : w9.cell? ⟨g, 0, none⟩ = some (.slice ao k cv) := cell_block _ _ 0 _ _ _ hg9
  have HG9 := hid_of (set_block w9 g 0 _ _ _ hg9 v9)
  have HS9 := hid_of (kept_set w9 g 0 v9)
  have HO9 := hid_of (HS9.out.ownsRow ho9 (fun q hq e => by
    subst e
    obtain ⟨cs, f, h9⟩ := own_type ho9 hq
    rw [hg9] at h9
    simp at h9))
  have HR9 := hid_of hr9
  have HK9 : Hid (Kept (fun q => q = g ∨ (Value.slice ao k cv).ownBlock = some q) W w9) := (hKd.mono (fun _ _ f => f.elim)).trans (hk9.mono (fun _ _ e => .inr e))
  have HKE : Hid (Kept (fun q => q = g ∨ (Value.slice ao k cv).ownBlock = some q) W (w9.setCell ⟨g, 0, none⟩ v9)) := HK9.out.trans (HS9.out.mono (fun _ _ e => .inl e))
  obtain ⟨va9, vc9, hv9⟩ := ownsRow_shape ho9
  subst hv9
  clear hk9 hg9 hr9 ho9 hod hgd
  iterate 4
    refine tkn (v := ?_) 0 rfl ?_ ?_; rotate_left 1
    · intro w hSw; go_simp; try with_reducible rfl
    try simp only [Act.put, tdy]
  iterate 1
    refine tkn (v := ?_) 5 rfl ?_ ?_; rotate_left 1
    · intro w hSw; obtain ⟨a0, a1⟩ := HSX.out w hSw; go_simp; try with_reducible rfl
    try simp only [Act.put, tdy]
  have cg2 : (wd.alloc (.cells #[.int .i64 op, .int .i64 a] 65)).cell? ⟨g, 0, none⟩ = some (.slice ao k cv) := ((Kept.refl (fun _ => False) wd).alloc _).cell cg (fun f => f)
  refine wpAnyH_ready (rs := [4, 6]) (by kernel_rfl) (by simp) ?_
  refine AllReadyH.cons rfl (fun K hK => ?_) (AllReadyH.cons rfl (fun K hK => ?_) AllReadyH.nil)
  · go_simp
    refine hK.out _ _ hHeld (fun hHeld => ?_)
    clear hK K cg cg2
    try simp only [Act.put, tdy]
    refine wpAnyH_ready (rs := [6]) (by kernel_rfl) (by simp) ?_
    refine AllReadyH.cons rfl (fun K hK => ?_) AllReadyH.nil
    go_simp
    refine hK.out _ _ (hHeld.alloc _) (fun hHeld => ?_)
    clear hK K
    try simp only [Act.put, tdy]
    refine wpAnyH_ready (rs := [7]) (by kernel_rfl) (by simp) ?_
    refine AllReadyH.cons rfl (fun K hK => ?_) AllReadyH.nil
    refine step_app rfl (.tmp 10) (.tmp 12) 61 61 rfl _ _ rfl rfl (.slice va9 (k + 1) vc9) w9 HR9.out ?_
    refine hK.out _ _ HK9.out (fun hHeld => ?_)
    clear hK K
    try simp only [Act.put, tdy]
    iterate 2
      refine tkn (v := ?_) 8 rfl ?_ ?_; rotate_left 1
      · intro w hSw; go_simp; try with_reducible rfl
      try simp only [Act.put, tdy]
    refine wpAnyH_ready (rs := [10]) (by kernel_rfl) (by simp) ?_
    refine AllReadyH.cons rfl (fun K hK => ?_) AllReadyH.nil
    go_simp
    refine hK.out _ _ HKE.out (fun hHeld => ?_)
    clear hK K
    try simp only [Act.put, tdy]
    refine wpAnyH_done (by kernel_rfl) ?_ _
    clear hHeld
    go_wp2
    refine bodyPost_end (results_none (by rfl) _ _ _) rfl ?_
    exact ⟨rfl, ⟨_, HG9.out, HO9.out⟩, (HK.out.mono (fun _ _ f => f.elim)).trans HKE.out⟩
  · go_simp
    refine hK.out _ _ (hHeld.alloc _) (fun hHeld => ?_)
    clear hK K cg
    try simp only [Act.put, tdy]
    refine wpAnyH_ready (rs := [4]) (by kernel_rfl) (by simp) ?_
    refine AllReadyH.cons rfl (fun K hK => ?_) AllReadyH.nil
    go_simp
    refine hK.out _ _ hHeld (fun hHeld => ?_)
    clear hK K cg2
    try simp only [Act.put, tdy]
    refine wpAnyH_ready (rs := [7]) (by kernel_rfl) (by simp) ?_
    refine AllReadyH.cons rfl (fun K hK => ?_) AllReadyH.nil
    refine step_app rfl (.tmp 10) (.tmp 12) 61 61 rfl _ _ rfl rfl (.slice va9 (k + 1) vc9) w9 HR9.out ?_
    refine hK.out _ _ HK9.out (fun hHeld => ?_)
    clear hK K
    try simp only [Act.put, tdy]
    iterate 2
      refine tkn (v := ?_) 8 rfl ?_ ?_; rotate_left 1
      · intro w hSw; go_simp; try with_reducible rfl
      try simp only [Act.put, tdy]
    refine wpAnyH_ready (rs := [10]) (by kernel_rfl) (by simp) ?_
    refine AllReadyH.cons rfl (fun K hK => ?_) AllReadyH.nil
    go_simp
    refine hK.out _ _ HKE.out (fun hHeld => ?_)
    clear hK K
    try simp only [Act.put, tdy]
    refine wpAnyH_done (by kernel_rfl) ?_ _
    clear hHeld
    go_wp2
    refine bodyPost_end (results_none (by rfl) _ _ _) rfl ?_
    exact ⟨rfl, ⟨_, HG9.out, HO9.out⟩, (HK.out.mono (fun _ _ f => f.elim)).trans HKE.out⟩
set_option maxHeartbeats 2000000 in
theorem put_origins (g base : Nat) (part op a : Int) (v : Value) (k : Nat) (xs : List Value) (w : World) (h : w.heap[g]? = some (.cells #[v] 86 (0, 0))) (ho : w.ownsRow base 3 1 v k xs) (hb : base ≤ w.heap.size) (hl : k ≤ 9000) :
    Calls Tryd.prog 119 #[.pointer (some ⟨g, 0, none⟩), .int .i64 part, .agg #[.int .i64 op, .int .i64 a]] w fun e w' => e = .returned (.tuple #[]) ∧ (∃ v', w'.heap[g]? = some (.cells #[v'] 86 (0, 0)) ∧ w'.ownsRow base 3 1 v' (k + 1) (xs ++ [.int .i64 part])) ∧ Kept (fun q => q = g ∨ v.ownBlock = some q) w w' := by
  obtain ⟨wd, hW⟩ : ∃ W, W = w.alloc (.cells #[.int .i64 op, .int .i64 a] 65) := ⟨_, rfl⟩
  have hk : Kept (fun _ => False) w wd := by rw [hW]; exact (Kept.refl _ _).alloc _
  have hgd := box_kept hk h (fun f => f)
  have hod := hk.ownsRow ho (fun _ _ f => f)
  obtain ⟨ao, cv, hv⟩ := ownsRow_shape ho
  have hb1 : base ≤ wd.heap.size := Nat.le_trans hb hk.size
  subst hv
  have cg : wd.cell? ⟨g, 0, none⟩ = some (.slice ao k cv) := cell_block _ _ 0 _ _ _ hgd
  obtain ⟨v9, w9, hr9, ho9, hk9⟩ := push_o hod part hb1 hl
  have hg9 := box_kept hk9 hgd (fun e => by
    obtain ⟨cs, f, h9⟩ := own_type hod e
    rw [hgd] at h9
    simp at h9)
  have f9 := frozen_block _ g 0 _ _ hg9
  have c9 : w9.cell? ⟨g, 0, none⟩ = some (.slice ao k cv) := cell_block _ _ 0 _ _ _ hg9
  have HG9 := hid_of (set_block w9 g 0 _ _ _ hg9 v9)
  have HS9 := hid_of (kept_set w9 g 0 v9)
  have HO9 := hid_of (HS9.out.ownsRow ho9 (fun q hq e => by
    subst e
    obtain ⟨cs, f, h9⟩ := own_type ho9 hq
    rw [hg9] at h9
    simp at h9))
  have HR9 := hid_of hr9
  have HKE : Hid (Kept (fun q => q = g ∨ (Value.slice ao k cv).ownBlock = some q) w (w9.setCell ⟨g, 0, none⟩ v9)) := ((hk.mono (fun _ _ f => f.elim)).trans (hk9.mono (fun _ _ e => .inr e))).trans (HS9.out.mono (fun _ _ e => .inl e))
  obtain ⟨va9, vc9, hv9⟩ := ownsRow_shape ho9
  subst hv9
  clear hk9 hg9 hr9 ho9 hod hgd hk h ho hb hb1
  go_enter Tryd.func119, Tryd.ntmps119
  go_upto_region 1 with fail
  rw [← hW]
  clear hW
  go_wp2_with (at_builtin; refine wp_app2 rfl (.tmp 10) (.tmp 12) 53 53 rfl _ _ rfl rfl _ w9 HR9.out ?_)
  refine bodyPost_end (results_none (by rfl) _ _ _) rfl ?_
  exact ⟨rfl, ⟨_, HG9.out, HO9.out⟩, HKE.out⟩
end Go.Proofs.YtfblffledokjkaaDoor

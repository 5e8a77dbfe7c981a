/-
  Code is written: the fixed unit's.
-/
import Derived.Test.YtfblffledokjkaaDoorUf
namespace Go.Proofs.YtfblffledokjkaaDoor
open Go.RowKit
set_option linter.unusedVariables false
set_option linter.unusedSimpArgs false
set_option maxRecDepth 100000

theorem keep_of {S : Nat → Prop} {w w' : World} (hk : Kept S w w') (h : ∀ q cs, w.heap[q]? = some (.cells cs 88 (0, 0)) → ¬ S q) : Keep88 w w' := fun q cs hq => box_kept hk hq (h q cs hq)
theorem Keep88.trans {a b c : World} (h : Keep88 a b) (k : Keep88 b c) : Keep88 a c := fun q cs hq => k q cs (h q cs hq)
def lnC (l : List Ln) : List Value := l.flatMap (fun x => [.int .i64 x.2.1, .int .i64 x.2.2])
def lnO (l : List Ln) : List Value := l.map (fun x => .int .i64 x.1)
def TT (g base : Nat) (w : World) (l : List Ln) : Prop := base ≤ g ∧ w.heap[g]? = some (.cells #[.int .i64 (l.length : Int)] 92 (0, 0))
def TC (g base : Nat) (w : World) (l : List Ln) : Prop := base ≤ g ∧ ∃ v, w.heap[g]? = some (.cells #[v] 73 (0, 0)) ∧ w.ownsRow base 65 2 v l.length (lnC l)
def TO (g base : Nat) (w : World) (l : List Ln) : Prop := base ≤ g ∧ ∃ v, w.heap[g]? = some (.cells #[v] 86 (0, 0)) ∧ w.ownsRow base 3 1 v l.length (lnO l)
set_option maxHeartbeats 2000000 in
theorem sh_t (g base : Nat) : ShOk (.iface 90 (.pointer (some ⟨g, 0, none⟩))) base (TT g base) := by
  refine ⟨fun w l part op a gw pv ev lv nx hl hT hw => ?_, fun w w' l gw cs hT hw hk => ⟨hT.1, box_kept hk hT.2 (fun e => by subst e; have := hT.2; rw [hw] at this; simp at this)⟩⟩
  obtain ⟨hb, hg⟩ := hT
  have HP := hid_of (put_tally g (l.length : Int) part op a w hg (by omega) (by omega))
  have hm := m_t w g
  have c4 : w.cell? ⟨gw, 4, none⟩ = some (.iface 90 (.pointer (some ⟨g, 0, none⟩))) := cell_block _ _ 4 _ _ _ hw
  have hne : gw ≠ g := fun e => by subst e; rw [hg] at hw; simp at hw
  have HW := hid_of hw
  have HG := hid_of hg
  clear hw hg
  go_enter Tryd.func34, Tryd.ntmps34
  go_wp2_with fail
  refine HP.out.mono ?_
  rintro e w5 ⟨rfl, h5, hk5⟩
  have H5 := hid_of h5
  have HK5 := hid_of hk5
  clear h5 hk5 hm c4
  go_wp2
  refine bodyPost_end (results_none (by rfl) _ _ _) rfl ?_
  refine ⟨rfl, ⟨hb, ?_⟩, box_kept HK5.out HW.out hne, HK5.out.mono (fun q _ e => by rw [e]; exact hb), keep_of HK5.out (fun q cs hq e => by subst e; rw [HG.out] at hq; simp at hq)⟩
  have h9 := H5.out
  simpa using h9
set_option maxHeartbeats 2000000 in
theorem sh_c (g base : Nat) : ShOk (.iface 71 (.pointer (some ⟨g, 0, none⟩))) base (TC g base) := by
  refine ⟨fun w l part op a gw pv ev lv nx hl hT hw => ?_, fun w w' l gw cs hT hw hk => ?_⟩
  · obtain ⟨hb, v, hg, ho⟩ := hT
    have hgl : g < w.heap.size := (Array.getElem?_eq_some_iff.1 hg).1
    have HP := hid_of (put_codes g base part op a v l.length (lnC l) w hg ho (by omega) (by omega))
    have hm := m_c w g
    have c4 : w.cell? ⟨gw, 4, none⟩ = some (.iface 71 (.pointer (some ⟨g, 0, none⟩))) := cell_block _ _ 4 _ _ _ hw
    have hne : ¬ (gw = g ∨ v.ownBlock = some gw) := fun e => by
      rcases e with e | e
      · subst e; rw [hg] at hw; simp at hw
      · obtain ⟨cs, f, h9⟩ := own_type ho e
        rw [hw] at h9; simp at h9
    have HW := hid_of hw
    have HG := hid_of hg
    have HO := hid_of ho
    clear hw hg ho
    go_enter Tryd.func34, Tryd.ntmps34
    go_wp2_with fail
    refine HP.out.mono ?_
    rintro e w5 ⟨rfl, ⟨v5, h5, ho5⟩, hk5⟩
    have H5 := hid_of h5
    have HO5 := hid_of ho5
    have HK5 := hid_of hk5
    clear h5 hk5 ho5 hm c4
    go_wp2
    refine bodyPost_end (results_none (by rfl) _ _ _) rfl ?_
    refine ⟨rfl, ⟨hb, v5, H5.out, ?_⟩, box_kept HK5.out HW.out hne, HK5.out.mono (fun q _ e => by rcases e with e | e; rw [e]; exact hb; exact (HO.out.lt q e).1), keep_of HK5.out (fun q cs hq e => by
      rcases e with e | e
      · subst e; rw [HG.out] at hq; simp at hq
      · obtain ⟨cs', f, h9⟩ := own_type HO.out e
        rw [hq] at h9; simp at h9)⟩
    have h9 := HO5.out
    simpa [lnC] using h9
  · obtain ⟨hb, v, hg, ho⟩ := hT
    refine ⟨hb, v, box_kept hk hg (fun e => by subst e; rw [hw] at hg; simp at hg), hk.ownsRow ho (fun q hq e => by
      subst e
      obtain ⟨cs', f, h9⟩ := own_type ho hq
      rw [hw] at h9; simp at h9)⟩
set_option maxHeartbeats 2000000 in
theorem sh_o (g base : Nat) : ShOk (.iface 84 (.pointer (some ⟨g, 0, none⟩))) base (TO g base) := by
  refine ⟨fun w l part op a gw pv ev lv nx hl hT hw => ?_, fun w w' l gw cs hT hw hk => ?_⟩
  · obtain ⟨hb, v, hg, ho⟩ := hT
    have hgl : g < w.heap.size := (Array.getElem?_eq_some_iff.1 hg).1
    have HP := hid_of (put_origins g base part op a v l.length (lnO l) w hg ho (by omega) (by omega))
    have hm := m_o w g
    have c4 : w.cell? ⟨gw, 4, none⟩ = some (.iface 84 (.pointer (some ⟨g, 0, none⟩))) := cell_block _ _ 4 _ _ _ hw
    have hne : ¬ (gw = g ∨ v.ownBlock = some gw) := fun e => by
      rcases e with e | e
      · subst e; rw [hg] at hw; simp at hw
      · obtain ⟨cs, f, h9⟩ := own_type ho e
        rw [hw] at h9; simp at h9
    have HW := hid_of hw
    have HG := hid_of hg
    have HO := hid_of ho
    clear hw hg ho
    go_enter Tryd.func34, Tryd.ntmps34
    go_wp2_with fail
    refine HP.out.mono ?_
    rintro e w5 ⟨rfl, ⟨v5, h5, ho5⟩, hk5⟩
    have H5 := hid_of h5
    have HO5 := hid_of ho5
    have HK5 := hid_of hk5
    clear h5 hk5 ho5 hm c4
    go_wp2
    refine bodyPost_end (results_none (by rfl) _ _ _) rfl ?_
    refine ⟨rfl, ⟨hb, v5, H5.out, ?_⟩, box_kept HK5.out HW.out hne, HK5.out.mono (fun q _ e => by rcases e with e | e; rw [e]; exact hb; exact (HO.out.lt q e).1), keep_of HK5.out (fun q cs hq e => by
      rcases e with e | e
      · subst e; rw [HG.out] at hq; simp at hq
      · obtain ⟨cs', f, h9⟩ := own_type HO.out e
        rw [hq] at h9; simp at h9)⟩
    have h9 := HO5.out
    simpa [lnO] using h9
  · obtain ⟨hb, v, hg, ho⟩ := hT
    refine ⟨hb, v, box_kept hk hg (fun e => by subst e; rw [hw] at hg; simp at hg), hk.ownsRow ho (fun q hq e => by
      subst e
      obtain ⟨cs', f, h9⟩ := own_type ho hq
      rw [hw] at h9; simp at h9)⟩
set_option maxHeartbeats 1000000 in
theorem op_12 (w : World) : Calls Tryd.prog 59 #[.int .i64 12] w fun e w' => e = .returned (.int .i64 3) ∧ w' = w := by
  go_enter Tryd.func59, Tryd.ntmps59
  go_wp2
  go_ret
  exact ⟨rfl, rfl⟩
set_option maxHeartbeats 1000000 in
theorem op_9 (w : World) : Calls Tryd.prog 59 #[.int .i64 9] w fun e w' => e = .returned (.int .i64 18) ∧ w' = w := by
  go_enter Tryd.func59, Tryd.ntmps59
  go_wp2
  go_ret
  exact ⟨rfl, rfl⟩
set_option maxHeartbeats 2000000 in
theorem behind_1 {ov : Value} {base : Nat} {T : World → List Ln → Prop} (hO : ShOk ov base T) (gw gp : Nat) (nx at' : Int) (ev : Value) (l : List Ln) (w : World) (hl : l.length ≤ 50) (hT : T w l) (hw : w.heap[gw]? = some (.cells #[.slice (some ⟨gp, 0, none⟩) 5 5, .int .i64 nx, ev, .slice none 0 0, ov] 98 (0, 0))) (hb : base ≤ w.heap.size) :
    Calls Tryd.prog 50 #[.pointer (some ⟨gw, 0, none⟩), .int .i64 at', .agg #[.int .i64 1, .int .i64 0, .int .i64 1]] w fun e w' => e = .returned (.tuple #[]) ∧ T w' l ∧ w'.heap[gw]? = some (.cells #[.slice (some ⟨gp, 0, none⟩) 5 5, .int .i64 nx, ev, .slice none 0 0, ov] 98 (0, 0)) ∧ Kept (fun q => base ≤ q) w w' ∧ Keep88 w w' := by
  obtain ⟨W, hW⟩ : ∃ W, W = w.alloc (.cells #[.int .i64 1, .int .i64 0, .int .i64 1] 88) := ⟨_, rfl⟩
  obtain ⟨gx, hgx⟩ : ∃ z, z = w.heap.size := ⟨_, rfl⟩
  have hk : Kept (fun _ => False) w W := by rw [hW]; exact (Kept.refl _ _).alloc _
  have hx : W.heap[gx]? = some (.cells #[.int .i64 1, .int .i64 0, .int .i64 1] 88 (0, 0)) := by rw [hW, hgx]; exact heap_alloc_new w _
  have hT1 := hO.kept w W l gw _ hT hw (hk.mono (fun _ _ f => f.elim))
  have hw1 := box_kept hk hw (fun f => f)
  have HX := hid_of hx
  have HK := hid_of hk
  have HT1 := hid_of hT1
  have HW1 := hid_of hw1
  obtain ⟨x0, x1, x2, _⟩ := look3 hx
  clear hk hT1 hw1 hT hw hb hx
  go_enter Tryd.func50, Tryd.ntmps50
  go_upto_region 1 with fail
  rw [← hW, ← hgx]
  clear hW hgx
  go_wp2
  refine bodyPost_end (results_none (by rfl) _ _ _) rfl ?_
  exact ⟨rfl, HT1.out, HW1.out, HK.out.mono (fun _ _ f => f.elim), keep_of HK.out (fun _ _ _ f => f)⟩
set_option maxHeartbeats 2000000 in
theorem behind_20 {ov : Value} {base : Nat} {T : World → List Ln → Prop} (hO : ShOk ov base T) (gw gp : Nat) (nx at' : Int) (ev : Value) (l : List Ln) (w : World) (hl : l.length ≤ 50) (hT : T w l) (hw : w.heap[gw]? = some (.cells #[.slice (some ⟨gp, 0, none⟩) 5 5, .int .i64 nx, ev, .slice none 0 0, ov] 98 (0, 0))) (hb : base ≤ w.heap.size) :
    Calls Tryd.prog 50 #[.pointer (some ⟨gw, 0, none⟩), .int .i64 at', .agg #[.int .i64 20, .int .i64 20, .int .i64 2]] w fun e w' => e = .returned (.tuple #[]) ∧ T w' (l ++ [(at', 20, 0)]) ∧ w'.heap[gw]? = some (.cells #[.slice (some ⟨gp, 0, none⟩) 5 5, .int .i64 nx, ev, .slice none 0 0, ov] 98 (0, 0)) ∧ Kept (fun q => base ≤ q) w w' ∧ Keep88 w w' := by
  obtain ⟨W, hW⟩ : ∃ W, W = w.alloc (.cells #[.int .i64 20, .int .i64 20, .int .i64 2] 88) := ⟨_, rfl⟩
  obtain ⟨gx, hgx⟩ : ∃ z, z = w.heap.size := ⟨_, rfl⟩
  have hk : Kept (fun _ => False) w W := by rw [hW]; exact (Kept.refl _ _).alloc _
  have hx : W.heap[gx]? = some (.cells #[.int .i64 20, .int .i64 20, .int .i64 2] 88 (0, 0)) := by rw [hW, hgx]; exact heap_alloc_new w _
  have hT1 := hO.kept w W l gw _ hT hw (hk.mono (fun _ _ f => f.elim))
  have hw1 := box_kept hk hw (fun f => f)
  have HX := hid_of hx
  have HK := hid_of hk
  have HT1 := hid_of hT1
  have HW1 := hid_of hw1
  obtain ⟨x0, x1, x2, _⟩ := look3 hx
  clear hk hT1 hw1 hT hw hb hx
  go_enter Tryd.func50, Tryd.ntmps50
  go_upto_region 1 with fail
  rw [← hW, ← hgx]
  clear hW hgx
  have HP := hid_of (hO.put W l at' 20 0 gw _ _ _ nx (by omega) HT1.out HW1.out)
  go_wp2_with fail
  refine HP.out.mono ?_
  rintro e w5 ⟨rfl, ht5, hg5, hk5, hq5⟩
  have HT5 := hid_of ht5
  have HG5 := hid_of hg5
  have HK5 : Hid (Kept (fun q => base ≤ q) w w5) := (HK.out.mono (fun _ _ f => f.elim)).trans hk5
  have HQ5 : Hid (Keep88 w w5) := (keep_of HK.out (fun _ _ _ f => f)).trans hq5
  clear ht5 hg5 hk5 hq5 x0 x1 x2
  go_wp2
  refine bodyPost_end (results_none (by rfl) _ _ _) rfl ?_
  exact ⟨rfl, HT5.out, HG5.out, HK5.out, HQ5.out⟩
set_option maxHeartbeats 2000000 in
theorem behind_12 {ov : Value} {base : Nat} {T : World → List Ln → Prop} (hO : ShOk ov base T) (gw gp : Nat) (nx at' n : Int) (ev : Value) (l : List Ln) (w : World) (hl : l.length ≤ 50) (hT : T w l) (hw : w.heap[gw]? = some (.cells #[.slice (some ⟨gp, 0, none⟩) 5 5, .int .i64 nx, ev, .slice none 0 0, ov] 98 (0, 0))) (hb : base ≤ w.heap.size) :
    Calls Tryd.prog 50 #[.pointer (some ⟨gw, 0, none⟩), .int .i64 at', .agg #[.int .i64 12, .int .i64 n, .int .i64 0]] w fun e w' => e = .returned (.tuple #[]) ∧ T w' (l ++ [(at', 3, n)]) ∧ w'.heap[gw]? = some (.cells #[.slice (some ⟨gp, 0, none⟩) 5 5, .int .i64 nx, ev, .slice none 0 0, ov] 98 (0, 0)) ∧ Kept (fun q => base ≤ q) w w' ∧ Keep88 w w' := by
  obtain ⟨W, hW⟩ : ∃ W, W = w.alloc (.cells #[.int .i64 12, .int .i64 n, .int .i64 0] 88) := ⟨_, rfl⟩
  obtain ⟨gx, hgx⟩ : ∃ z, z = w.heap.size := ⟨_, rfl⟩
  have hk : Kept (fun _ => False) w W := by rw [hW]; exact (Kept.refl _ _).alloc _
  have hx : W.heap[gx]? = some (.cells #[.int .i64 12, .int .i64 n, .int .i64 0] 88 (0, 0)) := by rw [hW, hgx]; exact heap_alloc_new w _
  have hT1 := hO.kept w W l gw _ hT hw (hk.mono (fun _ _ f => f.elim))
  have hw1 := box_kept hk hw (fun f => f)
  have HX := hid_of hx
  have HK := hid_of hk
  have HT1 := hid_of hT1
  have HW1 := hid_of hw1
  obtain ⟨x0, x1, x2, _⟩ := look3 hx
  clear hk hT1 hw1 hT hw hb hx
  go_enter Tryd.func50, Tryd.ntmps50
  go_upto_region 1 with fail
  rw [← hW, ← hgx]
  clear hW hgx
  go_upto_region 2 with fail
  clear x0 x1 x2
  refine wp_region_held_drew (S := fun w' => w'.heap[gx]? = some (.cells #[.int .i64 12, .int .i64 n, .int .i64 0] 88 (0, 0))) (by kernel_rfl) HX.out (fun hHeld => ?_)
  have hKd : Kept (fun _ => False) W W.drew := (Kept.refl _ _).drew
  have hTd := hO.kept W W.drew l gw _ HT1.out HW1.out (hKd.mono (fun _ _ f => f.elim))
  have hWd := box_kept hKd HW1.out (fun f => f)
  generalize W.drew = wd at *
  iterate 4
    refine tkn (v := ?_) 0 rfl ?_ ?_; rotate_left 1
    · intro w hSw; obtain ⟨a0, a1, a2, _⟩ := look3 hSw; go_simp; try with_reducible rfl
    try simp only [Act.put, tdy]
  iterate 2
    refine tkn (v := ?_) 5 rfl ?_ ?_; rotate_left 1
    · intro w hSw; obtain ⟨a0, a1, a2, _⟩ := look3 hSw; go_simp; try with_reducible rfl
    try simp only [Act.put, tdy]
  refine wpAnyH_ready (rs := [4]) (by kernel_rfl) (by simp) ?_
  refine AllReadyH.cons rfl (fun K hK => ?_) AllReadyH.nil
  go_simp
  refine (op_12 wd).mono ?_
  rintro e w9 ⟨rfl, hw9⟩
  have hw9' := hw9.symm
  clear hw9
  subst hw9'
  refine hK.out _ _ hHeld (fun hHeld => ?_)
  clear hK K
  try simp only [Act.put, tdy]
  refine wpAnyH_ready (rs := [7]) (by kernel_rfl) (by simp) ?_
  refine AllReadyH.cons rfl (fun K hK => ?_) AllReadyH.nil
  go_simp
  refine (hO.put wd l at' 3 n gw _ _ _ nx (by omega) hTd hWd).mono ?_
  rintro e w5 ⟨rfl, ht5, hg5, hk5, hq5⟩
  have HT5 := hid_of ht5
  have HG5 := hid_of hg5
  have HK5 : Hid (Kept (fun q => base ≤ q) w w5) := ((HK.out.trans hKd).mono (fun _ _ f => f.elim)).trans hk5
  have HQ5 : Hid (Keep88 w w5) := (keep_of (HK.out.trans hKd) (fun _ _ _ f => f)).trans hq5
  refine hK.out _ _ (hq5 _ _ hHeld) (fun hHeld => ?_)
  clear hK K ht5 hg5 hk5 hq5 hTd hWd hKd
  try simp only [Act.put, tdy]
  refine wpAnyH_done (by kernel_rfl) ?_ _
  clear hHeld
  go_wp2
  refine bodyPost_end (results_none (by rfl) _ _ _) rfl ?_
  exact ⟨rfl, HT5.out, HG5.out, HK5.out, HQ5.out⟩
set_option maxHeartbeats 2000000 in
theorem behind_9 {ov : Value} {base : Nat} {T : World → List Ln → Prop} (hO : ShOk ov base T) (gw gp : Nat) (nx at' : Int) (ev : Value) (l : List Ln) (w : World) (hl : l.length ≤ 50) (hT : T w l) (hw : w.heap[gw]? = some (.cells #[.slice (some ⟨gp, 0, none⟩) 5 5, .int .i64 nx, ev, .slice none 0 0, ov] 98 (0, 0))) (hb : base ≤ w.heap.size) :
    Calls Tryd.prog 50 #[.pointer (some ⟨gw, 0, none⟩), .int .i64 at', .agg #[.int .i64 9, .int .i64 0, .int .i64 1]] w fun e w' => e = .returned (.tuple #[]) ∧ T w' (l ++ [(at', 18, 0)]) ∧ w'.heap[gw]? = some (.cells #[.slice (some ⟨gp, 0, none⟩) 5 5, .int .i64 nx, ev, .slice none 0 0, ov] 98 (0, 0)) ∧ Kept (fun q => base ≤ q) w w' ∧ Keep88 w w' := by
  obtain ⟨W, hW⟩ : ∃ W, W = w.alloc (.cells #[.int .i64 9, .int .i64 0, .int .i64 1] 88) := ⟨_, rfl⟩
  obtain ⟨gx, hgx⟩ : ∃ z, z = w.heap.size := ⟨_, rfl⟩
  have hk : Kept (fun _ => False) w W := by rw [hW]; exact (Kept.refl _ _).alloc _
  have hx : W.heap[gx]? = some (.cells #[.int .i64 9, .int .i64 0, .int .i64 1] 88 (0, 0)) := by rw [hW, hgx]; exact heap_alloc_new w _
  have hT1 := hO.kept w W l gw _ hT hw (hk.mono (fun _ _ f => f.elim))
  have hw1 := box_kept hk hw (fun f => f)
  have HX := hid_of hx
  have HK := hid_of hk
  have HT1 := hid_of hT1
  have HW1 := hid_of hw1
  obtain ⟨x0, x1, x2, _⟩ := look3 hx
  clear hk hT1 hw1 hT hw hb hx
  go_enter Tryd.func50, Tryd.ntmps50
  go_upto_region 1 with fail
  rw [← hW, ← hgx]
  clear hW hgx
  go_upto_region 2 with fail
  clear x0 x1 x2
  refine wp_region_held_drew (S := fun w' => w'.heap[gx]? = some (.cells #[.int .i64 9, .int .i64 0, .int .i64 1] 88 (0, 0))) (by kernel_rfl) HX.out (fun hHeld => ?_)
  have hKd : Kept (fun _ => False) W W.drew := (Kept.refl _ _).drew
  have hTd := hO.kept W W.drew l gw _ HT1.out HW1.out (hKd.mono (fun _ _ f => f.elim))
  have hWd := box_kept hKd HW1.out (fun f => f)
  generalize W.drew = wd at *
  iterate 4
    refine tkn (v := ?_) 0 rfl ?_ ?_; rotate_left 1
    · intro w hSw; obtain ⟨a0, a1, a2, _⟩ := look3 hSw; go_simp; try with_reducible rfl
    try simp only [Act.put, tdy]
  iterate 2
    refine tkn (v := ?_) 5 rfl ?_ ?_; rotate_left 1
    · intro w hSw; obtain ⟨a0, a1, a2, _⟩ := look3 hSw; go_simp; try with_reducible rfl
    try simp only [Act.put, tdy]
  refine wpAnyH_ready (rs := [4]) (by kernel_rfl) (by simp) ?_
  refine AllReadyH.cons rfl (fun K hK => ?_) AllReadyH.nil
  go_simp
  refine (op_9 wd).mono ?_
  rintro e w9 ⟨rfl, hw9⟩
  have hw9' := hw9.symm
  clear hw9
  subst hw9'
  refine hK.out _ _ hHeld (fun hHeld => ?_)
  clear hK K
  try simp only [Act.put, tdy]
  refine wpAnyH_ready (rs := [7]) (by kernel_rfl) (by simp) ?_
  refine AllReadyH.cons rfl (fun K hK => ?_) AllReadyH.nil
  go_simp
  refine (hO.put wd l at' 18 0 gw _ _ _ nx (by omega) hTd hWd).mono ?_
  rintro e w5 ⟨rfl, ht5, hg5, hk5, hq5⟩
  have HT5 := hid_of ht5
  have HG5 := hid_of hg5
  have HK5 : Hid (Kept (fun q => base ≤ q) w w5) := ((HK.out.trans hKd).mono (fun _ _ f => f.elim)).trans hk5
  have HQ5 : Hid (Keep88 w w5) := (keep_of (HK.out.trans hKd) (fun _ _ _ f => f)).trans hq5
  refine hK.out _ _ (hq5 _ _ hHeld) (fun hHeld => ?_)
  clear hK K ht5 hg5 hk5 hq5 hTd hWd hKd
  try simp only [Act.put, tdy]
  refine wpAnyH_done (by kernel_rfl) ?_ _
  clear hHeld
  go_wp2
  refine bodyPost_end (results_none (by rfl) _ _ _) rfl ?_
  exact ⟨rfl, HT5.out, HG5.out, HK5.out, HQ5.out⟩
end Go.Proofs.YtfblffledokjkaaDoor

/-
  TAb: Ab, Ac, Ad.
-/
import Derived.Test.YtgoabnehdmdikaaGreatDoorTAa
namespace Go.Proofs.YtgoabnehdmdikaaGreatDoor
open Go.RowKit
set_option linter.unusedVariables false
set_option linter.unusedSimpArgs false
set_option maxRecDepth 100000

theorem Tryz.info130 : (Tryz.prog.info? 130).map (fun i => (i.zero, i.size, i.bytes)) = some (some (.agg #[.int .i64 0, .string ⟨#[]⟩, .int .i64 0, .bool false]), 4, 40) := by kernel_rfl
/-- A row's block, when something was put behind it. -/
def NewB (W : World) (v v' : Value) : Prop := v'.ownBlock = v.ownBlock ∨ v'.ownBlock = some (W.heap.size + 1)
theorem push_byte {w0 W : World} {v : Value} {k : Nat} {xs : List Value} (h : W.ownsRow w0.heap.size 5 1 v k xs) (x : Value) (hone : x.oneCell' = true) (hk : Kept (fun _ => False) w0 W) (hl : k ≤ 900000) :
    ∃ v' w', (Builtin.append_ #[23, 23] 23 #[v, .slice (some ⟨W.heap.size, 0, none⟩) 1 1]).run Tryz.prog (W.alloc (.cells #[x] 5)) = .ok v' w' ∧ w'.ownsRow w0.heap.size 5 1 v' (k + 1) (xs ++ [x]) ∧ Kept (fun _ => False) w0 w' ∧ Kept (fun q => v.ownBlock = some q) W w' ∧ NewB W v v' := by
  obtain ⟨i0, hi, hz0, hz1, hz2⟩ := info_parts Tryz.info5
  obtain ⟨v', w', hr, h2, h3, h4, _⟩ := append_old (P := Tryz.prog) (W.alloc (.cells #[x] 5)) w0.heap.size 23 23 5 i0 _ 1 1 Tryz.underlying23 hi hz0 hz1 hz2 rfl (by decide) v k xs (h.alloc _) ⟨W.heap.size, 0, none⟩ 1 1 [x] (by simp) (fun j u hj => by
    have hjl := (List.getElem?_eq_some_iff.1 hj).1
    have : j = 0 := by simpa using hjl
    subst this
    rw [Addr.add_lit, cell_block _ _ _ _ _ _ (heap_alloc_new W _)]
    simpa using hj) (fun u hu => by simp at hu; subst hu; exact hone) (by unfold maxLen; omega) (by omega) (by have := hk.size; simp; omega)
  have hk1 : Kept (fun k => v.ownBlock = some k) W w' := ((Kept.refl _ W).alloc _).grown h3 (fun k hk => .inr hk)
  exact ⟨v', w', hr, h2, hk.step hk1 (fun i hi e => by have := (h.lt i e).1; omega), hk1, by simpa [NewB] using h4⟩
theorem push_piece {w0 W : World} {v : Value} {k : Nat} {xs : List Value} (h : W.ownsRow w0.heap.size 130 4 v k xs) (x0 x1 x2 x3 : Value) (h0 : x0.oneCell' = true) (h1 : x1.oneCell' = true) (h2 : x2.oneCell' = true) (h3 : x3.oneCell' = true) (hk : Kept (fun _ => False) w0 W) (hl : k ≤ 90000) :
    ∃ v' w', (Builtin.append_ #[123, 123] 123 #[v, .slice (some ⟨W.heap.size, 0, none⟩) 1 1]).run Tryz.prog (W.alloc (.cells #[x0, x1, x2, x3] 130)) = .ok v' w' ∧ w'.ownsRow w0.heap.size 130 4 v' (k + 1) (xs ++ [x0, x1, x2, x3]) ∧ Kept (fun _ => False) w0 w' ∧ Kept (fun q => v.ownBlock = some q) W w' ∧ NewB W v v' := by
  obtain ⟨i0, hi, hz0, hz1, hz2⟩ := info_parts Tryz.info130
  obtain ⟨v', w', hr, h2', h3', h4, _⟩ := append_old (P := Tryz.prog) (W.alloc (.cells #[x0, x1, x2, x3] 130)) w0.heap.size 123 123 130 i0 _ 4 40 Tryz.underlying123 hi hz0 hz1 hz2 rfl (by decide) v k xs (h.alloc _) ⟨W.heap.size, 0, none⟩ 1 1 [x0, x1, x2, x3] (by simp) (fun j u hj => by
    have hjl := (List.getElem?_eq_some_iff.1 hj).1
    rw [Addr.add_lit, Nat.zero_add, cell_block _ _ _ _ _ _ (heap_alloc_new W _)]
    simpa using hj) (fun u hu => by
      simp at hu
      rcases hu with rfl | rfl | rfl | rfl <;> assumption) (by unfold maxLen; omega) (by omega) (by have := hk.size; simp; omega)
  have hk1 : Kept (fun k => v.ownBlock = some k) W w' := ((Kept.refl _ W).alloc _).grown h3' (fun k hk => .inr hk)
  exact ⟨v', w', hr, h2', hk.step hk1 (fun i hi e => by have := (h.lt i e).1; omega), hk1, by simpa [NewB] using h4⟩
/-- A piece: its kind, text, number. -/
structure Pc where
  k : Int
  s : ByteArray
  n : Int
def Pc.cells (p : Pc) : List Value := [.int .i64 p.k, .string p.s, .int .i64 p.n, .bool false]
def pcells (ps : List Pc) : List Value := ps.flatMap Pc.cells
theorem pcells_snoc (ps : List Pc) (p : Pc) : pcells (ps ++ [p]) = pcells ps ++ [.int .i64 p.k, .string p.s, .int .i64 p.n, .bool false] := by simp [pcells, Pc.cells]
def byts (l : List Int) : List Value := l.map (Value.int .u8)
theorem byts_snoc (l : List Int) (x : Int) : byts (l ++ [x]) = byts l ++ [.int .u8 x] := by simp [byts]
/-- A cutter in memory; all of it is newer than w. -/
structure Cu (I : Nat × ByteArray × Nat) (w wr : World) (c : Nat) (ps : List Pc) (st : Int) (un : List Int) : Prop where
  ex : ∃ pv uv, wr.heap[c]? = some (.cells #[pv, .int .i64 st, uv, .int .i64 0] 160 (0, 0)) ∧ wr.ownsRow w.heap.size 130 4 pv ps.length (pcells ps) ∧ wr.ownsRow w.heap.size 5 1 uv un.length (byts un)
  kept : Kept (fun _ => False) w wr
  lo : w.heap.size ≤ c
  it : wr.heap[I.1]? = some (.stringIter I.2.1 I.2.2)
  ilo : w.heap.size ≤ I.1
variable {I : Nat × ByteArray × Nat}
theorem own_iter {w : World} {base e s : Nat} {v : Value} {n : Nat} {xs : List Value} (h : w.ownsRow base e s v n xs) {B : Nat} {t : ByteArray} {p : Nat} (hb : w.heap[B]? = some (.stringIter t p)) : v.ownBlock ≠ some B := fun hq => by
  rcases h.2 with ⟨rfl, _⟩ | ⟨g, cap, cur, rfl, _, hgg, _⟩
  · cases hq
  · simp [Value.ownBlock] at hq
    subst hq
    rw [hb] at hgg
    cases hgg
theorem box_iter {w : World} {g B : Nat} {cs : Array Value} {t : TypeId} {f : Nat × Nat} {s : ByteArray} {p : Nat} (h : w.heap[g]? = some (.cells cs t f)) (hb : w.heap[B]? = some (.stringIter s p)) : B ≠ g := fun e => by
  rw [e, h] at hb
  cases hb
theorem Cu.same {w wr w' : World} {c : Nat} {ps : List Pc} {st : Int} {un : List Int} (h : Cu I w wr c ps st un) (hk : Kept (fun _ => False) wr w') : Cu I w w' c ps st un := by
  obtain ⟨pv, uv, h1, h2, h3⟩ := h.ex
  exact ⟨⟨pv, uv, box_kept hk h1 (fun f => f), hk.ownsRow h2 (fun _ _ f => f), hk.ownsRow h3 (fun _ _ f => f)⟩, h.kept.trans hk, h.lo, box_kept hk h.it (fun f => f), h.ilo⟩
/-- The state is set. -/
theorem Cu.setS {w wr : World} {c : Nat} {ps : List Pc} {st : Int} {un : List Int} (h : Cu I w wr c ps st un) (x : Int) : Cu I w (wr.setCell ⟨c, 1, none⟩ (.int .i64 x)) c ps x un := by
  obtain ⟨pv, uv, h1, h2, h3⟩ := h.ex
  have hs := kept_set wr c 1 (.int .i64 x)
  exact ⟨⟨pv, uv, set_block _ _ 1 _ _ _ h1 _, hs.ownsRow h2 (fun q hq e => own_box2 h2 h1 (by decide) (by rw [hq, e])), hs.ownsRow h3 (fun q hq e => own_box2 h3 h1 (by decide) (by rw [hq, e]))⟩, h.kept.setCell (.inl h.lo) _, h.lo, box_kept hs h.it (box_iter h1 h.it), h.ilo⟩
set_option maxHeartbeats 4000000 in
theorem grow_any (c : Nat) (r : Int) (w wr : World) (ps : List Pc) (st : Int) (un : List Int) (h : Cu I w wr c ps st un) (h0 : 0 ≤ r) (h1 : r < 256) (hl : un.length ≤ 900000) :
    Calls Tryz.prog 107 #[.pointer (some ⟨c, 0, none⟩), .int .i32 r] wr fun e w' => (∃ v, e = .returned v) ∧ Cu I w w' c ps st (un ++ [r]) := by
  obtain ⟨pv, uv, hb, hp, hu⟩ := h.ex
  obtain ⟨v', w', hr, ho, hk0, hk1, hn⟩ := push_byte hu (.int .u8 r) rfl h.kept hl
  have hb' := box_kept hk1 hb (fun e => own_box2 hu hb (by decide) e)
  have hp' := hk1.ownsRow hp (fun q hq e => own_two hu hp (by decide) q e hq)
  have hs := kept_set w' c 2 v'
  have H : Hid (Cu I w (w'.setCell ⟨c, 2, none⟩ v') c ps st (un ++ [r])) := by
    refine ⟨⟨pv, v', set_block _ _ 2 _ _ _ hb' _, hs.ownsRow hp' (fun q hq e => own_box2 hp' hb' (by decide) (by rw [hq, e])), ?_⟩, hk0.setCell (.inl h.lo) _, h.lo, box_kept hs (box_kept hk1 h.it (own_iter hu h.it)) (box_iter hb' (box_kept hk1 h.it (own_iter hu h.it))), h.ilo⟩
    rw [List.length_append, byts_snoc]
    exact hs.ownsRow ho (fun q hq e => own_box2 ho hb' (by decide) (by rw [hq, e]))
  obtain ⟨a1, c1, hv1⟩ := ownsRow_shape hu
  obtain ⟨n1, hn1⟩ : ∃ n, n = un.length := ⟨_, rfl⟩
  rw [← hn1] at hv1
  subst hv1
  have q2 := cell_block _ _ 2 _ _ _ hb
  have q3 := cell_block _ _ 2 _ _ _ hb'
  have q4 := frozen_block _ _ 2 _ _ hb'
  have HR := hid_of hr
  obtain ⟨a2, c2, hv2⟩ := ownsRow_shape ho
  obtain ⟨n2, hn2⟩ : ∃ n, n = un.length + 1 := ⟨_, rfl⟩
  rw [← hn2] at hv2
  subst hv2
  have hw8 : IntKind.wrap .u8 r = r := by simp [IntKind.wrap, IntKind.bits, IntKind.signed]; omega
  clear hr ho hk0 hk1 hn hp hu hp' hs hn1 hn2 hb hb' h hl
  go_enter Tryz.func107, Tryz.ntmps107
  go_wp2_with (at_builtin; refine wp_app2 rfl (.tmp 8) (.tmp 11) 23 23 rfl _ _ rfl rfl _ w' HR.out ?_)
  refine bodyPost_end (results_none rfl _ _ _) rfl ?_
  exact ⟨⟨_, rfl⟩, H.out⟩
set_option maxHeartbeats 8000000 in
theorem close_any (c : Nat) (k : Int) (tx : ByteArray) (n : Int) (w wr : World) (ps : List Pc) (st : Int) (un : List Int) (h : Cu I w wr c ps st un) (hl : ps.length ≤ 90000) :
    Calls Tryz.prog 112 #[.pointer (some ⟨c, 0, none⟩), .agg #[.int .i64 k, .string tx, .int .i64 n, .bool false]] wr fun e w' => (∃ v, e = .returned v) ∧ Cu I w w' c (ps ++ [⟨k, tx, n⟩]) 1 [] := by
  have hka : Kept (fun _ => False) wr (wr.alloc (.cells #[.int .i64 k, .string tx, .int .i64 n, .bool false] 130)) := (Kept.refl _ _).alloc _
  have hbx := heap_alloc_new wr (.cells #[.int .i64 k, .string tx, .int .i64 n, .bool false] 130)
  obtain ⟨pv, uv, hb0, hp0, hu0⟩ := h.ex
  have HNE : Hid (¬ (pv.ownBlock = some wr.heap.size ∨ wr.heap.size = c)) := fun e => by
    rcases e with e | e
    · have := (hp0.lt _ e).2; omega
    · have := (Array.getElem?_eq_some_iff.1 hb0).1; omega
  have HB := hid_of (box_kept hka hb0 (fun f => f))
  have HP := hid_of (hka.ownsRow hp0 (fun _ _ f => f))
  have HK := hid_of (h.kept.trans hka)
  have HLO := hid_of h.lo
  have HIT := hid_of (box_kept hka h.it (fun f => f))
  have HIL := hid_of h.ilo
  have HBX := hid_of hbx
  have HL := hid_of hl
  obtain ⟨a1, c1, hv1⟩ := ownsRow_shape hp0
  obtain ⟨n1, hn1⟩ : ∃ n, n = ps.length := ⟨_, rfl⟩
  rw [← hn1] at hv1
  subst hv1
  have HN1 := hid_of hn1
  clear h hka hbx hb0 hp0 hu0 hl hn1
  go_enter Tryz.func112, Tryz.ntmps112
  go_upto_region 1 with fail
  generalize wr.alloc (.cells #[.int .i64 k, .string tx, .int .i64 n, .bool false] 130) = w1 at *
  generalize wr.heap.size = gx at *
  have hKwd : Kept (fun _ => False) w1 w1.drew := (Kept.refl _ _).drew
  have HSM : Hid (∀ w', Kept (fun q => (Value.slice a1 n1 c1).ownBlock = some q ∨ q = c) w1 w' → w'.cell? ⟨gx, 0, none⟩ = some (.int .i64 k) ∧ w'.cell? ⟨gx, 1, none⟩ = some (.string tx) ∧ w'.cell? ⟨gx, 2, none⟩ = some (.int .i64 n) ∧ w'.cell? ⟨gx, 3, none⟩ = some (.bool false)) := fun w' hw =>
    ⟨hw.cell (cell_block _ _ 0 _ _ _ HBX.out) HNE.out, hw.cell (cell_block _ _ 1 _ _ _ HBX.out) HNE.out, hw.cell (cell_block _ _ 2 _ _ _ HBX.out) HNE.out, hw.cell (cell_block _ _ 3 _ _ _ HBX.out) HNE.out⟩
  refine wp_region_held_drew (S := fun w' => Kept (fun q => (Value.slice a1 n1 c1).ownBlock = some q ∨ q = c) w1 w') (by kernel_rfl) ((Kept.refl _ _).drew) (fun hHeld => ?_)
  generalize w1.drew = wd at *
  obtain ⟨v', w5, hr, ho, hk0, hk1, hn⟩ := push_piece (hKwd.ownsRow HP.out (fun _ _ f => f)) (.int .i64 k) (.string tx) (.int .i64 n) (.bool false) rfl rfl rfl rfl (HK.out.trans hKwd) HL.out
  have hbd := box_kept hKwd HB.out (fun f => f)
  have l0 := cell_block _ _ 0 _ _ _ hbd
  have hb5 := box_kept hk1 hbd (fun e => own_box2 (hKwd.ownsRow HP.out (fun _ _ f => f)) hbd (by decide) e)
  have HKS5 := hid_of ((hKwd.mono (T := fun q => (Value.slice a1 n1 c1).ownBlock = some q ∨ q = c) (fun _ _ f => f.elim)).trans (hk1.mono (fun _ _ e => .inl e)))
  have hs := kept_set w5 c 0 v'
  have HKS6 := hid_of (HKS5.out.setCell (p := ⟨c, 0, none⟩) (.inr (.inr rfl)) v')
  have HG1 := hid_of (And.intro (cell_block _ _ 0 _ _ _ hb5) (frozen_block _ _ 0 _ _ hb5))
  have HB6 := hid_of (set_block _ _ 0 _ _ _ hb5 v')
  have HP6 := hid_of (hs.ownsRow ho (fun q hq e => own_box2 ho hb5 (by decide) (by rw [hq, e])))
  have hit := box_kept hk1 (box_kept hKwd HIT.out (fun f => f)) (own_iter (hKwd.ownsRow HP.out (fun _ _ f => f)) (box_kept hKwd HIT.out (fun f => f)))
  have HI6 := hid_of (box_kept hs hit (box_iter hb5 hit))
  have HK6 := hid_of (hk0.setCell (p := ⟨c, 0, none⟩) (.inl HLO.out) v')
  obtain ⟨a2, c2, hv2⟩ := ownsRow_shape ho
  obtain ⟨n2, hn2⟩ : ∃ n, n = ps.length + 1 := ⟨_, rfl⟩
  rw [← hn2] at hv2
  subst hv2
  have HR := hid_of hr
  clear hr ho hk0 hk1 hn hbd hb5 hs hn2 hit
  iterate 4
    refine tkn (v := ?_) 0 rfl ?_ ?_; rotate_left 1
    · intro w hSw; go_simp; try with_reducible rfl
    try simp only [Act.put, tdy]
  iterate 1
    refine tkn (v := ?_) 5 rfl ?_ ?_; rotate_left 1
    · intro w hSw; obtain ⟨s0, s1, s2, s3⟩ := HSM.out w hSw; go_simp; try with_reducible rfl
    try simp only [Act.put, tdy]
  refine (fun (hfin : ?G) => ?main) ?fin
  case main =>
    refine wpAnyH_ready (rs := [4, 6]) (by kernel_rfl) (by simp) ?_
    refine AllReadyH.cons rfl (fun K hK => ?_) (AllReadyH.cons rfl (fun K hK => ?_) AllReadyH.nil)
    · have l1 := l0
      go_simp
      refine hK.out _ _ hHeld (fun hHeld => ?_)
      clear hK K
      try simp only [Act.put, tdy]
      clear l1
      refine wpAnyH_ready (rs := [6]) (by kernel_rfl) (by simp) ?_
      refine AllReadyH.cons rfl (fun K hK => ?_) AllReadyH.nil
      go_simp
      refine hK.out _ _ (hHeld.alloc _) (fun hHeld => ?_)
      clear hK K
      try simp only [Act.put, tdy]
      refine wpAnyH_ready (rs := [7]) (by kernel_rfl) (by simp) ?_
      refine AllReadyH.cons rfl (fun K hK => ?_) AllReadyH.nil
      refine step_app rfl (.tmp 8) (.tmp 10) 123 123 rfl _ _ rfl rfl (.slice a2 n2 c2) w5 HR.out ?_
      refine hK.out _ _ HKS5.out (fun hHeld => ?_)
      clear hK K
      try simp only [Act.put, tdy]
      iterate 2
        refine tkn (v := ?_) 8 rfl ?_ ?_; rotate_left 1
        · intro w hSw; go_simp; try with_reducible rfl
        try simp only [Act.put, tdy]
      obtain ⟨g1, gf1⟩ := HG1.out
      refine wpAnyH_ready (rs := [10]) (by kernel_rfl) (by simp) ?_
      refine AllReadyH.cons rfl (fun K hK => ?_) AllReadyH.nil
      go_simp
      refine hK.out _ _ HKS6.out (fun hHeld => ?_)
      clear hK K
      try simp only [Act.put, tdy]
      refine wpAnyH_done (by kernel_rfl) ?_ _
      exact hfin
    · go_simp
      refine hK.out _ _ (hHeld.alloc _) (fun hHeld => ?_)
      clear hK K
      try simp only [Act.put, tdy]
      have l1 : (wd.alloc (.cells #[.int .i64 k, .string tx, .int .i64 n, .bool false] 130)).cell? ⟨c, 0, none⟩ = some (.slice a1 n1 c1) := ((Kept.refl (fun _ => False) wd).alloc _).cell l0 (fun f => f)
      refine wpAnyH_ready (rs := [4]) (by kernel_rfl) (by simp) ?_
      refine AllReadyH.cons rfl (fun K hK => ?_) AllReadyH.nil
      go_simp
      refine hK.out _ _ hHeld (fun hHeld => ?_)
      clear hK K
      try simp only [Act.put, tdy]
      clear l1
      refine wpAnyH_ready (rs := [7]) (by kernel_rfl) (by simp) ?_
      refine AllReadyH.cons rfl (fun K hK => ?_) AllReadyH.nil
      refine step_app rfl (.tmp 8) (.tmp 10) 123 123 rfl _ _ rfl rfl (.slice a2 n2 c2) w5 HR.out ?_
      refine hK.out _ _ HKS5.out (fun hHeld => ?_)
      clear hK K
      try simp only [Act.put, tdy]
      iterate 2
        refine tkn (v := ?_) 8 rfl ?_ ?_; rotate_left 1
        · intro w hSw; go_simp; try with_reducible rfl
        try simp only [Act.put, tdy]
      obtain ⟨g1, gf1⟩ := HG1.out
      refine wpAnyH_ready (rs := [10]) (by kernel_rfl) (by simp) ?_
      refine AllReadyH.cons rfl (fun K hK => ?_) AllReadyH.nil
      go_simp
      refine hK.out _ _ HKS6.out (fun hHeld => ?_)
      clear hK K
      try simp only [Act.put, tdy]
      refine wpAnyH_done (by kernel_rfl) ?_ _
      exact hfin
  clear l0 HSM HKS5 HKS6 HG1 HR hKwd hHeld
  generalize w5.setCell ⟨c, 0, none⟩ (.slice a2 n2 c2) = w6 at *
  have hb7 := set_block _ _ 2 _ _ _ HB6.out (.slice none 0 0)
  have hb8 := set_block _ _ 1 _ _ _ hb7 (.int .i64 1)
  have q0 := cell_block _ _ 2 _ _ _ HB6.out
  have q1 := frozen_block _ _ 2 _ _ HB6.out
  have q2 := cell_block _ _ 1 _ _ _ hb7
  have q3 := frozen_block _ _ 1 _ _ hb7
  have hs := (kept_set w6 c 2 (.slice none 0 0)).trans (kept_set _ c 1 (.int .i64 1))
  have H : Hid (Cu I w ((w6.setCell ⟨c, 2, none⟩ (.slice none 0 0)).setCell ⟨c, 1, none⟩ (.int .i64 1)) c (ps ++ [⟨k, tx, n⟩]) 1 []) := by
    refine ⟨⟨_, _, hb8, ?_, World.ownsRow_nil _ _ _ _⟩, (HK6.out.setCell (.inl HLO.out) _).setCell (.inl HLO.out) _, HLO.out, box_kept hs HI6.out (box_iter HB6.out HI6.out), HIL.out⟩
    rw [List.length_append, pcells_snoc]
    exact hs.ownsRow HP6.out (fun q hq e => own_box2 HP6.out HB6.out (by decide) (by rw [hq, e]))
  clear hb7 hb8 hs
  go_wp2
  refine bodyPost_end (results_none rfl _ _ _) rfl ?_
  exact ⟨⟨_, rfl⟩, H.out⟩
end Go.Proofs.YtgoabnehdmdikaaGreatDoor

namespace Go.Proofs.YtgoabnehdmdikaaGreatDoor
open Go.RowKit
set_option linter.unusedVariables false
set_option linter.unusedSimpArgs false
set_option maxRecDepth 100000

theorem letter_yes (r : Int) (w : World) (h1 : 97 ≤ r) (h2 : r ≤ 122) :
    Calls Tryz.prog 134 #[.int .i32 r] w fun e w' => e = .returned (.bool true) ∧ w' = w := by
  go_enter Tryz.func134, Tryz.ntmps134
  go_wp2
  go_ret
  exact ⟨rfl, rfl⟩
theorem letter_dig (r : Int) (w : World) (h1 : 48 ≤ r) (h2 : r ≤ 57) :
    Calls Tryz.prog 134 #[.int .i32 r] w fun e w' => e = .returned (.bool false) ∧ w' = w := by
  have h3 : ¬ (97 ≤ r) := by omega
  have h4 : ¬ (65 ≤ r) := by omega
  have h5 : (r == 95) = false := by simp; omega
  go_enter Tryz.func134, Tryz.ntmps134
  go_wp2
  go_ret
  exact ⟨rfl, rfl⟩
theorem letter_bl (w : World) :
    Calls Tryz.prog 134 #[.int .i32 32] w fun e w' => e = .returned (.bool false) ∧ w' = w := by
  go_enter Tryz.func134, Tryz.ntmps134
  go_wp2
  go_ret
  exact ⟨rfl, rfl⟩
theorem digit_yes (r : Int) (w : World) (h1 : 48 ≤ r) (h2 : r ≤ 57) :
    Calls Tryz.prog 135 #[.int .i32 r] w fun e w' => e = .returned (.bool true) ∧ w' = w := by
  go_enter Tryz.func135, Tryz.ntmps135
  go_wp2
  go_ret
  exact ⟨rfl, rfl⟩
theorem digit_bl (w : World) :
    Calls Tryz.prog 135 #[.int .i32 32] w fun e w' => e = .returned (.bool false) ∧ w' = w := by
  go_enter Tryz.func135, Tryz.ntmps135
  go_wp2
  go_ret
  exact ⟨rfl, rfl⟩
theorem goes_let (r : Int) (w : World) (h1 : 97 ≤ r) (h2 : r ≤ 122) :
    Calls Tryz.prog 106 #[.int .i32 r] w fun e w' => e = .returned (.bool true) ∧ w' = w := by
  go_enter Tryz.func106, Tryz.ntmps106
  go_wp2_with fail
  refine (letter_yes r w h1 h2).mono ?_
  rintro e w1 ⟨rfl, hw⟩
  have hw := hw.symm
  subst hw
  go_wp2
  go_ret
  exact ⟨rfl, rfl⟩
theorem goes_bl (w : World) :
    Calls Tryz.prog 106 #[.int .i32 32] w fun e w' => e = .returned (.bool false) ∧ w' = w := by
  go_enter Tryz.func106, Tryz.ntmps106
  go_wp2_with fail
  refine (letter_bl w).mono ?_
  rintro e w1 ⟨rfl, hw⟩
  have hw := hw.symm
  subst hw
  go_wp2_with fail
  refine (digit_bl w).mono ?_
  rintro e w1 ⟨rfl, hw⟩
  have hw := hw.symm
  subst hw
  go_wp2
  go_ret
  exact ⟨rfl, rfl⟩
set_option maxHeartbeats 4000000 in
theorem trimR (b : UInt8) (g : Nat) (w : World) (hc : w.cell? ⟨g, b.toNat, none⟩ = some (.bool true)) :
    Calls Tryz.prog 195 #[.string ⟨#[b]⟩, .pointer (some ⟨g, 0, none⟩)] w fun e w' => e = .returned (.string ⟨#[]⟩) ∧ w' = w := by
  have HC := hid_of (Tryz.asciiSet_contains g b true w hc)
  clear hc
  go_enter Tryz.func195, Tryz.ntmps195
  go_wp2_with fail
  go_loopw [0] (fun sv wr => wr = w ∧ (sv = .string ⟨#[b]⟩ ∨ sv = .string ⟨#[]⟩)) (fun sv _ => match sv with | .string s => s.size | _ => 0)
  case atStart => exact ⟨rfl, .inl rfl⟩
  case round =>
    obtain ⟨hw, hs⟩ := hrel
    have hw := hw.symm
    subst hw
    rcases hs with rfl | rfl
    · go_wp2_with fail
      refine HC.out.mono ?_
      rintro e w1 ⟨rfl, hw⟩
      have hw := hw.symm
      subst hw
      go_wp2
      go_roundw
      case rel => first | exact ⟨rfl, .inr rfl⟩ | exact ⟨trivial, .inr rfl⟩
      case measure => exact Nat.zero_lt_one
    · go_wp2
      go_ret
      exact ⟨rfl, rfl⟩
set_option maxHeartbeats 4000000 in
theorem trimL (v : Value) (w : World) : Calls Tryz.prog 194 #[.string ⟨#[]⟩, v] w fun e w' => e = .returned (.string ⟨#[]⟩) ∧ w' = w := by
  go_enter Tryz.func194, Tryz.ntmps194
  go_wp2_with fail
  go_loopw [0] (fun sv wr => wr = w ∧ sv = .string ⟨#[]⟩) (fun sv _ => 0)
  case atStart => exact ⟨rfl, rfl⟩
  case round =>
    obtain ⟨hw, rfl⟩ := hrel
    have hw := hw.symm
    subst hw
    go_wp2
    go_ret
    exact ⟨rfl, rfl⟩
abbrev dgs : ByteArray := ⟨#[48, 49, 50, 51, 52, 53, 54, 55, 56, 57]⟩
def z211 : Array Value := Array.replicate 256 (.bool false)
theorem zero211 : ∀ w, (zeroValue 260).run Tryz.prog w = .ok (.agg (Array.replicate 256 (.bool false))) w := fun w => by kernel_rfl
def dset : Array Value := Lib.setCells dgs.data.toList
theorem dset_at (n : Nat) (h1 : 48 ≤ n) (h2 : n ≤ 57) : dset[n]? = some (.bool true) := by
  have : n = 48 ∨ n = 49 ∨ n = 50 ∨ n = 51 ∨ n = 52 ∨ n = 53 ∨ n = 54 ∨ n = 55 ∨ n = 56 ∨ n = 57 := by omega
  rcases this with rfl | rfl | rfl | rfl | rfl | rfl | rfl | rfl | rfl | rfl <;> rfl
theorem size211 : (Tryz.prog.info? 260).map (·.size) = some dset.size := by kernel_rfl
theorem dset_one : dset.all (·.oneCell') = true := by kernel_rfl
theorem dset_size : z211.size = dset.size := by kernel_rfl
theorem set_dig (w : World) : Calls Tryz.prog 193 #[.string dgs] w fun e w' => e = .returned (.tuple #[.agg dset, .bool true]) ∧ w' = w.alloc (.cells dset 260) :=
  Tryz.strings_makeASCIISet zero211 dgs w (by decide) (fun j b hj => by
    have hjl := (List.getElem?_eq_some_iff.1 hj).1
    have h10 : j < 10 := hjl
    have : j = 0 ∨ j = 1 ∨ j = 2 ∨ j = 3 ∨ j = 4 ∨ j = 5 ∨ j = 6 ∨ j = 7 ∨ j = 8 ∨ j = 9 := by omega
    rcases this with rfl | rfl | rfl | rfl | rfl | rfl | rfl | rfl | rfl | rfl <;> (simp [dgs] at hj; subst hj; decide))
attribute [irreducible] dset z211
set_option maxHeartbeats 4000000 in
theorem trim_dig (b : UInt8) (h1 : 48 ≤ b.toNat) (h2 : b.toNat ≤ 57) (w : World) :
    Calls Tryz.prog 161 #[.string ⟨#[b]⟩, .string dgs] w fun e w' => e = .returned (.string ⟨#[]⟩) ∧ Kept (fun _ => False) w w' := by
  have HS := hid_of (set_dig w)
  have hd : dset[b.toNat]? = some (.bool true) := dset_at _ h1 h2
  have hk0 : Kept (fun _ => False) w (w.alloc (.cells dset 260)) := (Kept.refl _ _).alloc _
  obtain ⟨hO, hX, hK⟩ := new_row (w.alloc (.cells dset 260)) z211 dset 260
  have HK := hid_of (hk0.trans hK)
  have HR := hid_of (trimR b (w.alloc (.cells dset 260)).heap.size _ ((cell_block _ _ b.toNat _ _ _ hX).trans hd))
  clear hd hk0 hX hK
  go_enter Tryz.func161, Tryz.ntmps161
  go_wp2_with fail
  refine HS.out.mono ?_
  rintro e w1 ⟨rfl, hw⟩
  rw [← hw] at HR HK hO
  clear HS hw
  go_upto_region 6 with (first | refine wpList_to rfl (some 5) rfl (.pointer (some ⟨w1.heap.size, 0, none⟩)) (w1.alloc (.cells z211 260)) (by unfold z211; kernel_rfl) ?_ | refine wpList_store_row rfl 260 _ _ rfl w1.heap.size dset rfl rfl 260 _ hO size211 dset_size dset_one ?_)
  clear hO
  generalize (w1.alloc (.cells z211 260)).setRow w1.heap.size dset = w2 at *
  generalize w1.heap.size = g at *
  go_wp2_with fail
  refine HR.out.mono ?_
  rintro e w3 ⟨rfl, hw⟩
  have hw := hw.symm
  subst hw
  go_wp2_with fail
  refine (trimL _ w2).mono ?_
  rintro e w3 ⟨rfl, hw⟩
  have hw := hw.symm
  subst hw
  go_wp2
  go_ret
  exact ⟨rfl, HK.out⟩
set_option maxHeartbeats 4000000 in
theorem made_dig (b : UInt8) (h1 : 48 ≤ b.toNat) (h2 : b.toNat ≤ 57) (w : World) :
    Calls Tryz.prog 139 #[.string ⟨#[b]⟩, .string dgs] w fun e w' => e = .returned (.bool true) ∧ Kept (fun _ => False) w w' := by
  go_enter Tryz.func139, Tryz.ntmps139
  go_wp2_with fail
  refine (trim_dig b h1 h2 w).mono ?_
  rintro e w3 ⟨rfl, hk⟩
  have HK := hid_of hk
  clear hk
  go_wp2
  go_ret
  exact ⟨rfl, HK.out⟩
set_option maxHeartbeats 4000000 in
theorem is_nil (tp : TypeId) (pv : Value) (w : World) : Calls Tryz.prog 141 #[.nilIface, .iface tp pv] w fun e w' => e = .returned (.bool false) ∧ w' = w := by
  have he : ∀ w, (binOp .eql 28 .nilIface (.iface tp pv)).run Tryz.prog w = .ok (.bool false) w := fun w => by kernel_rfl
  go_enter Tryz.func141, Tryz.ntmps141
  go_wp2
  go_ret
  exact ⟨rfl, rfl⟩
/-- What lies in the program's own variables. -/
structure Gl (w : World) : Prop where
  tab : Lib.TabIs Tryz.prog w "internal/strconv.uint64pow10" .u64 Lib.pow10Tab
  len : ∃ m, w.cell? ⟨0, 0, none⟩ = some (.int .i64 m)
  err : ∃ tp pv, w.cell? ⟨1, 0, none⟩ = some (.iface tp pv)
  lo : 8 ≤ w.heap.size
theorem var_block {P : Program} {w w' : World} {n : String} {g : Nat} (hg : P.globalNamed n = some g) (hb : w'.heap[g]? = w.heap[g]?) : w'.var? P n = w.var? P n := by
  unfold World.var?
  rw [hg]
  simp only [Option.bind_some, hb]
theorem pow_named : Tryz.prog.globalNamed "internal/strconv.uint64pow10" = some 4 := by kernel_rfl
theorem Gl.kept {S : Nat → Prop} {w w' : World} (h : Gl w) (hk : Kept S w w') (hS : ∀ q, q < 5 → ¬ S q) : Gl w' := by
  obtain ⟨m, hm⟩ := h.len
  obtain ⟨tp, pv, he⟩ := h.err
  have := h.lo
  refine ⟨?_, ⟨m, hk.cell hm (hS 0 (by decide))⟩, ⟨tp, pv, hk.cell he (hS 1 (by decide))⟩, Nat.le_trans h.lo hk.size⟩
  unfold Lib.TabIs
  rw [var_block pow_named (hk.block 4 (by omega) (hS 4 (by decide)))]
  exact h.tab
theorem Gl.same {w w' : World} (h : Gl w) (hk : Kept (fun _ => False) w w') : Gl w' := h.kept hk (fun _ _ f => f)
theorem kept_bytes (w : World) (t : ByteArray) : Kept (fun _ => False) w (Lib.bytesWorld w 5 t) := by
  refine ⟨rfl, rfl, rfl, ?_, fun k hk _ => ?_⟩
  · simp [Lib.bytesWorld, World.freeze]
  · show ((w.drew.alloc _).heap.modify _ _)[k]? = _
    rw [Array.getElem?_modify, if_neg (show ¬ w.heap.size = k by omega)]
    exact Below.heap_alloc w.drew _ _ hk
theorem size82 : (Tryz.prog.info? 130).map (·.size) = some 4 := by kernel_rfl
set_option maxHeartbeats 8000000 in
theorem num_dig (b : UInt8) (hb : b = 48 ∨ b = 49) (w : World) (hG : Gl w) :
    Calls Tryz.prog 113 #[.string ⟨#[b]⟩] w fun e w' => e = .returned (.tuple #[.agg #[.int .i64 1, .string ⟨#[]⟩, .int .i64 ((b.toNat : Int) - 48), .bool false], .bool true]) ∧ Kept (fun _ => False) w w' := by
  have hk0 : Kept (fun _ => False) w (w.alloc (.cells #[.int .i64 0, .string ⟨#[]⟩, .int .i64 0, .bool false] 130)) := (Kept.refl _ _).alloc _
  have hb0 := heap_alloc_new w (.cells #[.int .i64 0, .string ⟨#[]⟩, .int .i64 0, .bool false] 130)
  have HG := hid_of (hG.same hk0)
  have HK := hid_of hk0
  have HB := hid_of hb0
  have HCP := hid_of (Tryz.strings_CutPrefix ⟨#[b]⟩ ⟨#[48, 120]⟩)
  have hcp : Lib.hasPrefix [b] [48, 120] = false := by rcases hb with rfl | rfl <;> rfl
  have hct : Lib.trimPrefix [b] [48, 120] = [b] := by rcases hb with rfl | rfl <;> rfl
  have HPI := hid_of (Tryz.strconv_ParseInt_10_at64_ok ⟨#[b]⟩ (by show 1 ≤ _; decide) ((b.toNat : Int) - 48) (by rcases hb with rfl | rfl <;> rfl))
  have HTP := hid_of (Tryz.strings_TrimPrefix ⟨#[b]⟩ ⟨#[45]⟩)
  have htp : Lib.trimPrefix [b] [45] = [b] := by rcases hb with rfl | rfl <;> rfl
  have HMD := hid_of (made_dig b (by rcases hb with rfl | rfl <;> decide) (by rcases hb with rfl | rfl <;> decide))
  clear hb hk0 hb0 hG
  go_enter Tryz.func113, Tryz.ntmps113
  go_upto_region 1 with fail
  generalize w.alloc (.cells #[.int .i64 0, .string ⟨#[]⟩, .int .i64 0, .bool false] 130) = w1 at *
  obtain ⟨g, hg⟩ : ∃ g, g = w.heap.size := ⟨_, rfl⟩
  rw [← hg] at HB ⊢
  have HGW : Hid (w.heap.size ≤ g) := by rw [hg]; exact Nat.le_refl _
  clear hg
  go_wp2_with fail
  refine (HCP.out w1).mono ?_
  rintro e w2 ⟨he, hw⟩
  simp only [hcp, hct] at he
  subst he
  have hw := hw.symm
  subst hw
  clear HCP hcp hct
  go_wp2_with fail
  refine (HPI.out w1).mono ?_
  rintro e w2 ⟨rfl, hw⟩
  have hk2 : Kept (fun _ => False) w1 w2 := by
    rcases hw with rfl | ⟨t, rfl⟩
    · exact Kept.refl _ _
    · exact kept_bytes _ _
  have HK2 := hid_of (HK.out.trans hk2)
  have HB2 := hid_of (box_kept hk2 HB.out (fun f => f))
  obtain ⟨tp, pv, q2⟩ := (HG.out.same hk2).err
  have HIS := hid_of (is_nil tp pv w2)
  clear hw hk2 HPI HG HB HK
  go_wp2_with fail
  refine HIS.out.mono ?_
  rintro e w3 ⟨rfl, hw⟩
  have hw := hw.symm
  subst hw
  clear HIS q2
  go_wp2_with fail
  refine (HTP.out w2).mono ?_
  rintro e w3 ⟨he, hw⟩
  simp only [htp] at he
  subst he
  have hw := hw.symm
  subst hw
  clear HTP htp
  go_wp2_with fail
  refine (HMD.out w2).mono ?_
  rintro e w3 ⟨rfl, hk3⟩
  have hb3 := box_kept hk3 HB2.out (fun f => f)
  obtain ⟨hx, hkx⟩ := set4 w3 g 130 _ _ _ _ (.int .i64 1) (.string ⟨#[]⟩) (.int .i64 ((b.toNat : Int) - 48)) (.bool false) hb3
  obtain ⟨c0, c1, c2, c3, f0, f1, f2, f3⟩ := look4 hb3
  have HX := hid_of hx
  have HKX := hid_of ((HK2.out.trans hk3).step hkx (fun i hi e => by have := HGW.out; omega))
  clear hx hkx hb3 hk3 HMD HK2 HB2
  go_wp2
  refine bodyPost_ret (v := .tuple #[.agg #[.int .i64 1, .string ⟨#[]⟩, .int .i64 ((b.toNat : Int) - 48), .bool false], .bool true]) ?_ rfl ⟨rfl, HKX.out⟩
  exact results_row_tmp (by rfl) _ _ ⟨g, 0, none⟩ _ _ (by rfl) (by rfl) (run_loadVar_row _ g 130 130 _ (0, 0) _ HX.out Tryz.underlying130 rfl size82)
end Go.Proofs.YtgoabnehdmdikaaGreatDoor

namespace Go.Proofs.YtgoabnehdmdikaaGreatDoor
open Go.RowKit
set_option linter.unusedVariables false
set_option linter.unusedSimpArgs false
set_option maxRecDepth 100000

variable {I : Nat × ByteArray × Nat}
set_option maxHeartbeats 4000000 in
theorem begin_bl (c : Nat) (w wr : World) (ps : List Pc) (st : Int) (un : List Int) (h : Cu I w wr c ps st un) : Calls Tryz.prog 108 #[.pointer (some ⟨c, 0, none⟩), .int .i32 32] wr fun e w' => e = .returned (.bool true) ∧ Cu I w w' c ps 0 un := by
  have H := hid_of (h.setS 0)
  obtain ⟨pv, uv, hb, hp, hu⟩ := h.ex
  obtain ⟨c0, c1, c2, c3, f0, f1, f2, f3⟩ := look4 hb
  clear h hb hp hu
  go_enter Tryz.func108, Tryz.ntmps108
  go_wp2
  go_ret
  exact ⟨rfl, H.out⟩
set_option maxHeartbeats 4000000 in
theorem begin_let (r : Int) (c : Nat) (w wr : World) (ps : List Pc) (un : List Int) (h : Cu I w wr c ps 0 un) (h1 : 97 ≤ r) (h2 : r ≤ 122) (hl : un.length ≤ 900000) : Calls Tryz.prog 108 #[.pointer (some ⟨c, 0, none⟩), .int .i32 r] wr fun e w' => e = .returned (.bool true) ∧ Cu I w w' c ps 2 (un ++ [r]) := by
  have H := hid_of (h.setS 2)
  obtain ⟨pv, uv, hb, hp, hu⟩ := h.ex
  obtain ⟨c0, c1, c2, c3, f0, f1, f2, f3⟩ := look4 hb
  have HG := hid_of (grow_any c r w _ ps 2 un (h.setS 2) (by omega) (by omega) hl)
  have e9 : (r == 9) = false := by simp; omega
  have e13 : (r == 13) = false := by simp; omega
  have e32 : (r == 32) = false := by simp; omega
  have e58 : (r == 58) = false := by simp; omega
  have e34 : (r == 34) = false := by simp; omega
  clear h hb hp hu hl
  go_enter Tryz.func108, Tryz.ntmps108
  go_wp2_with fail
  refine (letter_yes r wr h1 h2).mono ?_
  rintro e w1 ⟨rfl, hw⟩
  have hw := hw.symm
  subst hw
  go_wp2_with fail
  refine HG.out.mono ?_
  rintro e w1 ⟨⟨v, rfl⟩, h2⟩
  have H2 := hid_of h2
  clear h2
  go_wp2
  go_ret
  exact ⟨rfl, H2.out⟩
set_option maxHeartbeats 4000000 in
theorem begin_dig (r : Int) (c : Nat) (w wr : World) (ps : List Pc) (un : List Int) (h : Cu I w wr c ps 0 un) (h1 : 48 ≤ r) (h2 : r ≤ 57) (hl : un.length ≤ 900000) : Calls Tryz.prog 108 #[.pointer (some ⟨c, 0, none⟩), .int .i32 r] wr fun e w' => e = .returned (.bool true) ∧ Cu I w w' c ps 3 (un ++ [r]) := by
  have H := hid_of (h.setS 3)
  obtain ⟨pv, uv, hb, hp, hu⟩ := h.ex
  obtain ⟨c0, c1, c2, c3, f0, f1, f2, f3⟩ := look4 hb
  have HG := hid_of (grow_any c r w _ ps 3 un (h.setS 3) (by omega) (by omega) hl)
  have e9 : (r == 9) = false := by simp; omega
  have e13 : (r == 13) = false := by simp; omega
  have e32 : (r == 32) = false := by simp; omega
  have e58 : (r == 58) = false := by simp; omega
  have e34 : (r == 34) = false := by simp; omega
  clear h hb hp hu hl
  go_enter Tryz.func108, Tryz.ntmps108
  go_wp2_with fail
  refine (letter_dig r wr h1 h2).mono ?_
  rintro e w1 ⟨rfl, hw⟩
  have hw := hw.symm
  subst hw
  go_wp2_with fail
  refine (digit_yes r wr h1 h2).mono ?_
  rintro e w1 ⟨rfl, hw⟩
  have hw := hw.symm
  subst hw
  go_wp2_with fail
  refine HG.out.mono ?_
  rintro e w1 ⟨⟨v, rfl⟩, h2⟩
  have H2 := hid_of h2
  clear h2
  go_wp2
  go_ret
  exact ⟨rfl, H2.out⟩
set_option maxHeartbeats 4000000 in
theorem end_word (c : Nat) (w wr : World) (ps : List Pc) (un : List Int) (h : Cu I w wr c ps 2 un) (hl : ps.length ≤ 90000) : Calls Tryz.prog 81 #[.pointer (some ⟨c, 0, none⟩)] wr fun e w' => e = .returned (.bool true) ∧ Cu I w w' c (ps ++ [⟨0, str un, 0⟩]) 1 [] := by
  have HC := hid_of (close_any c 0 (str un) 0 w wr ps 2 un h hl)
  obtain ⟨pv, uv, hb, hp, hu⟩ := h.ex
  obtain ⟨c0, c1, c2, c3, f0, f1, f2, f3⟩ := look4 hb
  have hcv := conv_str wr uv un (isB_own hu)
  obtain ⟨ua, uc, hv⟩ := ownsRow_shape hu
  obtain ⟨n, hn⟩ : ∃ n, n = un.length := ⟨_, rfl⟩
  rw [← hn] at hv
  subst hv
  clear h hb hp hu hl hn
  go_enter Tryz.func81, Tryz.ntmps81
  go_wp2_with fail
  refine HC.out.mono ?_
  rintro e w1 ⟨⟨v, rfl⟩, h2⟩
  have H2 := hid_of h2
  obtain ⟨pv', uv', hb, hp, hu⟩ := h2.ex
  clear c0 c1 c2 c3 f0 f1 f2 f3
  obtain ⟨c0, c1, c2, c3, f0, f1, f2, f3⟩ := look4 hb
  clear h2 hb hp hu hcv HC
  go_wp2
  go_ret
  exact ⟨rfl, H2.out⟩
set_option maxHeartbeats 8000000 in
theorem end_num (b : UInt8) (hb0 : b = 48 ∨ b = 49) (c : Nat) (w wr : World) (ps : List Pc) (h : Cu I w wr c ps 3 [(b.toNat : Int)]) (hG : Gl wr) (hl : ps.length ≤ 90000) : Calls Tryz.prog 81 #[.pointer (some ⟨c, 0, none⟩)] wr fun e w' => e = .returned (.bool true) ∧ Cu I w w' c (ps ++ [⟨1, ⟨#[]⟩, (b.toNat : Int) - 48⟩]) 1 [] := by
  have HN := hid_of (num_dig b hb0 wr hG)
  have HH := hid_of h
  obtain ⟨pv, uv, hb, hp, hu⟩ := h.ex
  obtain ⟨c0, c1, c2, c3, f0, f1, f2, f3⟩ := look4 hb
  have hcv := conv_str wr uv _ (isB_own hu)
  have hstr : str [(b.toNat : Int)] = ⟨#[b]⟩ := by rcases hb0 with rfl | rfl <;> rfl
  rw [hstr] at hcv
  obtain ⟨ua, uc, hv⟩ := ownsRow_shape hu
  obtain ⟨n, hn⟩ : ∃ n, n = [(b.toNat : Int)].length := ⟨_, rfl⟩
  rw [← hn] at hv
  subst hv
  have HL := hid_of hl
  obtain ⟨bd, hbd⟩ : ∃ z, z = (b.toNat : Int) - 48 := ⟨_, rfl⟩
  rw [← hbd] at HN ⊢
  clear h hb hp hu hl hn hstr hb0 hG hbd
  go_enter Tryz.func81, Tryz.ntmps81
  go_wp2_with fail
  refine HN.out.mono ?_
  rintro e w1 ⟨rfl, hk1⟩
  have HH1 := hid_of (HH.out.same hk1)
  clear HN HH hk1 hcv c0 c1 c2 c3 f0 f1 f2 f3
  have hka : Kept (fun _ => False) w1 (w1.alloc (.cells #[.int .i64 1, .string ⟨#[]⟩, .int .i64 bd, .bool false] 130)) := (Kept.refl _ _).alloc _
  have hba := heap_alloc_new w1 (.cells #[.int .i64 1, .string ⟨#[]⟩, .int .i64 bd, .bool false] 130)
  have HH2 := hid_of (HH1.out.same hka)
  have HBA := hid_of hba
  clear hka hba HH1
  go_upto_region 6 with fail
  generalize w1.alloc (.cells #[.int .i64 1, .string ⟨#[]⟩, .int .i64 bd, .bool false] 130) = w2 at *
  generalize w1.heap.size = g at *
  obtain ⟨x0, x1, x2, x3, _⟩ := look4 HBA.out
  have HC := hid_of (close_any c 1 ⟨#[]⟩ bd w w2 ps 3 _ HH2.out HL.out)
  clear HH2 HBA
  go_wp2_with fail
  refine HC.out.mono ?_
  rintro e w3 ⟨⟨v, rfl⟩, h2⟩
  have H2 := hid_of h2
  clear h2 HC x0 x1 x2 x3
  go_wp2
  go_ret
  exact ⟨rfl, H2.out⟩
set_option maxHeartbeats 4000000 in
theorem take_let0 (r : Int) (c : Nat) (w wr : World) (ps : List Pc) (un : List Int) (h : Cu I w wr c ps 0 un) (h1 : 97 ≤ r) (h2 : r ≤ 122) (hl : un.length ≤ 900000) : Calls Tryz.prog 80 #[.pointer (some ⟨c, 0, none⟩), .int .i32 r] wr fun e w' => e = .returned (.bool true) ∧ Cu I w w' c ps 2 (un ++ [r]) := by
  have HH := hid_of h
  obtain ⟨pv, uv, hb, hp, hu⟩ := h.ex
  obtain ⟨c0, c1, c2, c3, f0, f1, f2, f3⟩ := look4 hb
  clear h hb hp hu
  go_enter Tryz.func80, Tryz.ntmps80
  go_wp2_with fail
  refine (begin_let r c w wr ps un HH.out h1 h2 hl).mono ?_
  rintro e W0 ⟨rfl, h2⟩
  clear HH
  have HH := hid_of h2
  clear h2
  go_wp2
  go_ret
  exact ⟨rfl, HH.out⟩
set_option maxHeartbeats 4000000 in
theorem take_dig0 (r : Int) (c : Nat) (w wr : World) (ps : List Pc) (un : List Int) (h : Cu I w wr c ps 0 un) (h1 : 48 ≤ r) (h2 : r ≤ 57) (hl : un.length ≤ 900000) : Calls Tryz.prog 80 #[.pointer (some ⟨c, 0, none⟩), .int .i32 r] wr fun e w' => e = .returned (.bool true) ∧ Cu I w w' c ps 3 (un ++ [r]) := by
  have HH := hid_of h
  obtain ⟨pv, uv, hb, hp, hu⟩ := h.ex
  obtain ⟨c0, c1, c2, c3, f0, f1, f2, f3⟩ := look4 hb
  clear h hb hp hu
  go_enter Tryz.func80, Tryz.ntmps80
  go_wp2_with fail
  refine (begin_dig r c w wr ps un HH.out h1 h2 hl).mono ?_
  rintro e W0 ⟨rfl, h2⟩
  clear HH
  have HH := hid_of h2
  clear h2
  go_wp2
  go_ret
  exact ⟨rfl, HH.out⟩
set_option maxHeartbeats 4000000 in
theorem take_let2 (r : Int) (c : Nat) (w wr : World) (ps : List Pc) (un : List Int) (h : Cu I w wr c ps 2 un) (h1 : 97 ≤ r) (h2 : r ≤ 122) (hl : un.length ≤ 900000) : Calls Tryz.prog 80 #[.pointer (some ⟨c, 0, none⟩), .int .i32 r] wr fun e w' => e = .returned (.bool true) ∧ Cu I w w' c ps 2 (un ++ [r]) := by
  have HH := hid_of h
  obtain ⟨pv, uv, hb, hp, hu⟩ := h.ex
  obtain ⟨c0, c1, c2, c3, f0, f1, f2, f3⟩ := look4 hb
  clear h hb hp hu
  go_enter Tryz.func80, Tryz.ntmps80
  go_wp2_with fail
  refine (goes_let r wr h1 h2).mono ?_
  rintro e w1 ⟨rfl, hw⟩
  have hw := hw.symm
  subst hw
  go_wp2_with fail
  refine (grow_any c r w wr ps 2 un HH.out (by omega) (by omega) hl).mono ?_
  rintro e W1 ⟨⟨v, rfl⟩, h2⟩
  clear HH
  have HH := hid_of h2
  clear h2
  go_wp2
  go_ret
  exact ⟨rfl, HH.out⟩
set_option maxHeartbeats 4000000 in
theorem take_bl2 (c : Nat) (w wr : World) (ps : List Pc) (un : List Int) (h : Cu I w wr c ps 2 un) (hl : ps.length ≤ 90000) : Calls Tryz.prog 80 #[.pointer (some ⟨c, 0, none⟩), .int .i32 32] wr fun e w' => e = .returned (.bool true) ∧ Cu I w w' c (ps ++ [⟨0, str un, 0⟩]) 0 [] := by
  have HH := hid_of h
  obtain ⟨pv, uv, hb, hp, hu⟩ := h.ex
  obtain ⟨c0, c1, c2, c3, f0, f1, f2, f3⟩ := look4 hb
  clear h hb hp hu
  go_enter Tryz.func80, Tryz.ntmps80
  go_wp2_with fail
  refine (goes_bl wr).mono ?_
  rintro e w1 ⟨rfl, hw⟩
  have hw := hw.symm
  subst hw
  go_wp2_with fail
  refine (end_word c w wr ps un HH.out hl).mono ?_
  rintro e W1 ⟨rfl, h2⟩
  clear HH
  have HH := hid_of h2
  clear h2
  go_wp2_with fail
  refine (begin_bl c w W1 _ 1 [] HH.out).mono ?_
  rintro e W2 ⟨rfl, h2⟩
  clear HH
  have HH := hid_of h2
  clear h2
  go_wp2
  go_ret
  exact ⟨rfl, HH.out⟩
set_option maxHeartbeats 4000000 in
theorem take_bl3 (b : UInt8) (hb0 : b = 48 ∨ b = 49) (c : Nat) (w wr : World) (ps : List Pc) (un : List Int) (h : Cu I w wr c ps 3 [(b.toNat : Int)]) (hG : Gl wr) (hl : ps.length ≤ 90000) : Calls Tryz.prog 80 #[.pointer (some ⟨c, 0, none⟩), .int .i32 32] wr fun e w' => e = .returned (.bool true) ∧ Cu I w w' c (ps ++ [⟨1, ⟨#[]⟩, (b.toNat : Int) - 48⟩]) 0 [] := by
  have HH := hid_of h
  obtain ⟨pv, uv, hb, hp, hu⟩ := h.ex
  obtain ⟨c0, c1, c2, c3, f0, f1, f2, f3⟩ := look4 hb
  clear h hb hp hu
  go_enter Tryz.func80, Tryz.ntmps80
  go_wp2_with fail
  refine (goes_bl wr).mono ?_
  rintro e w1 ⟨rfl, hw⟩
  have hw := hw.symm
  subst hw
  go_wp2_with fail
  refine (end_num b hb0 c w wr ps HH.out hG hl).mono ?_
  rintro e W1 ⟨rfl, h2⟩
  clear HH
  have HH := hid_of h2
  clear h2
  go_wp2_with fail
  refine (begin_bl c w W1 _ 1 [] HH.out).mono ?_
  rintro e W2 ⟨rfl, h2⟩
  clear HH
  have HH := hid_of h2
  clear h2
  go_wp2
  go_ret
  exact ⟨rfl, HH.out⟩
end Go.Proofs.YtgoabnehdmdikaaGreatDoor

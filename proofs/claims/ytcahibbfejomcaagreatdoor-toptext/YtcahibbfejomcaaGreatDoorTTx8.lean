import Derived.Test.YtcahibbfejomcaaGreatDoorTTx7
namespace Go.Proofs.YtcahibbfejomcaaGreatDoor
open Go.RowKit
set_option linter.unusedVariables false
set_option linter.unusedSimpArgs false
set_option maxRecDepth 100000
theorem Tryz.info138 : (Tryz.prog.info? 138).map (fun i => (i.zero, i.size, i.bytes)) = some (some (.agg #[.int .i64 0, .string ⟨#[]⟩, .int .i64 0, .bool false]), 4, 40) := by kernel_rfl
def NewB (W : World) (v v' : Value) : Prop := v'.ownBlock = v.ownBlock ∨ v'.ownBlock = some (W.heap.size + 1)
theorem push_byte {w0 W : World} {v : Value} {k : Nat} {xs : List Value} (h : W.ownsRow w0.heap.size 5 1 v k xs) (x : Value) (hone : x.oneCell' = true) (hk : Kept (fun _ => False) w0 W) (hl : k ≤ 900000) :
  ∃ v' w', (Builtin.append_ #[22, 22] 22 #[v, .slice (some ⟨W.heap.size, 0, none⟩) 1 1]).run Tryz.prog (W.alloc (.cells #[x] 5)) = .ok v' w' ∧ w'.ownsRow w0.heap.size 5 1 v' (k + 1) (xs ++ [x]) ∧ Kept (fun _ => False) w0 w' ∧ Kept (fun q => v.ownBlock = some q) W w' ∧ NewB W v v' := by
 obtain ⟨i0, hi, hz0, hz1, hz2⟩ := info_parts Tryz.info5
 obtain ⟨v', w', hr, h2, h3, h4, _⟩ := append_old (P := Tryz.prog) (W.alloc (.cells #[x] 5)) w0.heap.size 22 22 5 i0 _ 1 1 Tryz.underlying22 hi hz0 hz1 hz2 rfl (by decide) v k xs (h.alloc _) ⟨W.heap.size, 0, none⟩ 1 1 [x] (by simp) (fun j u hj => by
  have hjl := (List.getElem?_eq_some_iff.1 hj).1
  have : j = 0 := by simpa using hjl
  subst this
  rw [Addr.add_lit, cell_block _ _ _ _ _ _ (heap_alloc_new W _)]
  simpa using hj) (fun u hu => by simp at hu; subst hu; exact hone) (by unfold maxLen; omega) (by omega) (by have := hk.size; simp; omega)
 have hk1 : Kept (fun k => v.ownBlock = some k) W w' := ((Kept.refl _ W).alloc _).grown h3 (fun k hk => .inr hk)
 exact ⟨v', w', hr, h2, hk.step hk1 (fun i hi e => by have := (h.lt i e).1; omega), hk1, by simpa [NewB] using h4⟩
theorem push_piece {w0 W : World} {v : Value} {k : Nat} {xs : List Value} (h : W.ownsRow w0.heap.size 138 4 v k xs) (x0 x1 x2 x3 : Value) (h0 : x0.oneCell' = true) (h1 : x1.oneCell' = true) (h2 : x2.oneCell' = true) (h3 : x3.oneCell' = true) (hk : Kept (fun _ => False) w0 W) (hl : k ≤ 90000) :
  ∃ v' w', (Builtin.append_ #[131, 131] 131 #[v, .slice (some ⟨W.heap.size, 0, none⟩) 1 1]).run Tryz.prog (W.alloc (.cells #[x0, x1, x2, x3] 138)) = .ok v' w' ∧ w'.ownsRow w0.heap.size 138 4 v' (k + 1) (xs ++ [x0, x1, x2, x3]) ∧ Kept (fun _ => False) w0 w' ∧ Kept (fun q => v.ownBlock = some q) W w' ∧ NewB W v v' := by
 obtain ⟨i0, hi, hz0, hz1, hz2⟩ := info_parts Tryz.info138
 obtain ⟨v', w', hr, h2', h3', h4, _⟩ := append_old (P := Tryz.prog) (W.alloc (.cells #[x0, x1, x2, x3] 138)) w0.heap.size 131 131 138 i0 _ 4 40 Tryz.underlying131 hi hz0 hz1 hz2 rfl (by decide) v k xs (h.alloc _) ⟨W.heap.size, 0, none⟩ 1 1 [x0, x1, x2, x3] (by simp) (fun j u hj => by
  have hjl := (List.getElem?_eq_some_iff.1 hj).1
  rw [Addr.add_lit, Nat.zero_add, cell_block _ _ _ _ _ _ (heap_alloc_new W _)]
  simpa using hj) (fun u hu => by
   simp at hu
   rcases hu with rfl | rfl | rfl | rfl <;> assumption) (by unfold maxLen; omega) (by omega) (by have := hk.size; simp; omega)
 have hk1 : Kept (fun k => v.ownBlock = some k) W w' := ((Kept.refl _ W).alloc _).grown h3' (fun k hk => .inr hk)
 exact ⟨v', w', hr, h2', hk.step hk1 (fun i hi e => by have := (h.lt i e).1; omega), hk1, by simpa [NewB] using h4⟩
def byts (l : List Int) : List Value := l.map (Value.int .u8)
theorem byts_snoc (l : List Int) (x : Int) : byts (l ++ [x]) = byts l ++ [.int .u8 x] := by simp [byts]
variable {I : Nat × ByteArray × Nat}
theorem own_iter {w : World} {base e s : Nat} {v : Value} {n : Nat} {xs : List Value} (h : w.ownsRow base e s v n xs) {B : Nat} {t : ByteArray} {p : Nat} (hb : w.heap[B]? = some (.stringIter t p)) : v.ownBlock ≠ some B := fun hq => by
 rcases h.2 with ⟨rfl, _⟩ | ⟨g, cap, cur, rfl, _, hgg, _⟩
 ·cases hq
 ·simp [Value.ownBlock] at hq
  subst hq
  rw [hb] at hgg
  cases hgg
theorem box_iter {w : World} {g B : Nat} {cs : Array Value} {t : TypeId} {f : Nat × Nat} {s : ByteArray} {p : Nat} (h : w.heap[g]? = some (.cells cs t f)) (hb : w.heap[B]? = some (.stringIter s p)) : B ≠ g := fun e => by
 rw [e, h] at hb
 cases hb
end Go.Proofs.YtcahibbfejomcaaGreatDoor
namespace Go.Proofs.YtcahibbfejomcaaGreatDoor
open Go.RowKit
set_option linter.unusedVariables false
set_option linter.unusedSimpArgs false
set_option maxRecDepth 100000
structure Pf where
 k : Int
 s : ByteArray
 n : Int
 f : Bool
def Pf.cells (p : Pf) : List Value := [.int .i64 p.k, .string p.s, .int .i64 p.n, .bool p.f]
def fcells (ps : List Pf) : List Value := ps.flatMap Pf.cells
theorem fcells_snoc (ps : List Pf) (p : Pf) : fcells (ps ++ [p]) = fcells ps ++ [.int .i64 p.k, .string p.s, .int .i64 p.n, .bool p.f] := by simp [fcells, Pf.cells]
structure Cg (I : Nat × ByteArray × Nat) (w wr : World) (c : Nat) (ps : List Pf) (st : Int) (un : List Int) (hi : Int) : Prop where
 ex : ∃ pv uv, wr.heap[c]? = some (.cells #[pv, .int .i64 st, uv, .int .i64 hi] 158 (0, 0)) ∧ wr.ownsRow w.heap.size 138 4 pv ps.length (fcells ps) ∧ wr.ownsRow w.heap.size 5 1 uv un.length (byts un)
 kept : Kept (fun _ => False) w wr
 lo : w.heap.size ≤ c
 it : wr.heap[I.1]? = some (.stringIter I.2.1 I.2.2)
 ilo : w.heap.size ≤ I.1
variable {I : Nat × ByteArray × Nat}
theorem Cg.same {w wr w' : World} {c : Nat} {ps : List Pf} {st : Int} {un : List Int} {hi : Int} (h : Cg I w wr c ps st un hi) (hk : Kept (fun _ => False) wr w') : Cg I w w' c ps st un hi := by
 obtain ⟨pv, uv, h1, h2, h3⟩ := h.ex
 exact ⟨⟨pv, uv, box_kept hk h1 id, hk.ownsRow h2 (fun _ _ f => f), hk.ownsRow h3 (fun _ _ f => f)⟩, h.kept.trans hk, h.lo, box_kept hk h.it id, h.ilo⟩
theorem Cg.setS {w wr : World} {c : Nat} {ps : List Pf} {st : Int} {un : List Int} {hi : Int} (h : Cg I w wr c ps st un hi) (x : Int) : Cg I w (wr.setCell ⟨c, 1, none⟩ (.int .i64 x)) c ps x un hi := by
 obtain ⟨pv, uv, h1, h2, h3⟩ := h.ex
 have hs := kept_set wr c 1 (.int .i64 x)
 exact ⟨⟨pv, uv, set_block _ _ 1 _ _ _ h1 _, hs.ownsRow h2 (fun q hq e => own_box2 h2 h1 (by decide) (by rw [hq, e])), hs.ownsRow h3 (fun q hq e => own_box2 h3 h1 (by decide) (by rw [hq, e]))⟩, h.kept.setCell (.inl h.lo) _, h.lo, box_kept hs h.it (box_iter h1 h.it), h.ilo⟩
set_option maxHeartbeats 4000000 in
theorem growG (c : Nat) (r : Int) (w wr : World) (ps : List Pf) (st : Int) (un : List Int) (hi : Int) (h : Cg I w wr c ps st un hi) (h0 : 0 ≤ r) (h1 : r < 256) (hl : un.length ≤ 900000) :
  Calls Tryz.prog 95 #[.pointer (some ⟨c, 0, none⟩), .int .i32 r] wr fun e w' => (∃ v, e = .returned v) ∧ Cg I w w' c ps st (un ++ [r]) hi := by
 obtain ⟨pv, uv, hb, hp, hu⟩ := h.ex
 obtain ⟨v', w', hr, ho, hk0, hk1, hn⟩ := push_byte hu (.int .u8 r) rfl h.kept hl
 have hb' := box_kept hk1 hb (fun e => own_box2 hu hb (by decide) e)
 have hp' := hk1.ownsRow hp (fun q hq e => own_two hu hp (by decide) q e hq)
 have hs := kept_set w' c 2 v'
 have H : Hid (Cg I w (w'.setCell ⟨c, 2, none⟩ v') c ps st (un ++ [r]) hi) := by
  refine ⟨⟨pv, v', set_block _ _ 2 _ _ _ hb' _, hs.ownsRow hp' (fun q hq e => own_box2 hp' hb' (by decide) (by rw [hq, e])), ?_⟩, hk0.setCell (.inl h.lo) _, h.lo, box_kept hs (box_kept hk1 h.it (own_iter hu h.it)) (box_iter hb' (box_kept hk1 h.it (own_iter hu h.it))), h.ilo⟩
  rw [List.length_append, byts_snoc]
  exact hs.ownsRow ho (fun q hq e => own_box2 ho hb' (by decide) (by rw [hq, e]))
 obtain ⟨a1, c1, hv1⟩ := ownsRow_shape hu
 obtain ⟨n1, hn1⟩ := nmd (un.length)
 rw [← hn1] at hv1
 subst hv1
 have q2 := cell_block _ _ 2 _ _ _ hb
 have q3 := cell_block _ _ 2 _ _ _ hb'
 have q4 := frozen_block _ _ 2 _ _ hb'
 have HR := hid_of hr
 obtain ⟨a2, c2, hv2⟩ := ownsRow_shape ho
 obtain ⟨n2, hn2⟩ := nmd (un.length + 1)
 rw [← hn2] at hv2
 subst hv2
 have hw8 : IntKind.wrap .u8 r = r := by simp [IntKind.wrap, IntKind.bits, IntKind.signed]; omega
 clear hr ho hk0 hk1 hn hp hu hp' hs hn1 hn2 hb hb' h hl
 go_enter Tryz.func95, Tryz.ntmps95
 go_wp2_with (at_builtin; refine wp_app2 rfl (.tmp 8) (.tmp 11) 22 22 rfl _ _ rfl rfl _ w' HR.out ?_)
 refine bodyPost_end (results_none rfl _ _ _) rfl ?_
 exact ⟨⟨_, rfl⟩, H.out⟩
set_option maxHeartbeats 8000000 in
theorem closeG (c : Nat) (k : Int) (tx : ByteArray) (n : Int) (f : Bool) (w wr : World) (ps : List Pf) (st : Int) (un : List Int) (hi : Int) (h : Cg I w wr c ps st un hi) (hl : ps.length ≤ 90000) :
  Calls Tryz.prog 100 #[.pointer (some ⟨c, 0, none⟩), .agg #[.int .i64 k, .string tx, .int .i64 n, .bool f]] wr fun e w' => (∃ v, e = .returned v) ∧ Cg I w w' c (ps ++ [⟨k, tx, n, f⟩]) 1 [] hi := by
 have hka : Kept (fun _ => False) wr (wr.alloc (.cells #[.int .i64 k, .string tx, .int .i64 n, .bool f] 138)) := (Kept.refl _ _).alloc _
 have hbx := heap_alloc_new wr (.cells #[.int .i64 k, .string tx, .int .i64 n, .bool f] 138)
 obtain ⟨pv, uv, hb0, hp0, hu0⟩ := h.ex
 have HNE : Hid (¬ (pv.ownBlock = some wr.heap.size ∨ wr.heap.size = c)) := fun e => by
  rcases e with e | e
  ·have := (hp0.lt _ e).2; omega
  ·have := (Array.getElem?_eq_some_iff.1 hb0).1; omega
 have HB := hid_of (box_kept hka hb0 id)
 have HP := hid_of (hka.ownsRow hp0 (fun _ _ f => f))
 have HK := hid_of (h.kept.trans hka)
 have HLO := hid_of h.lo
 have HIT := hid_of (box_kept hka h.it id)
 have HIL := hid_of h.ilo
 have HBX := hid_of hbx
 have HL := hid_of hl
 obtain ⟨a1, c1, hv1⟩ := ownsRow_shape hp0
 obtain ⟨n1, hn1⟩ := nmd (ps.length)
 rw [← hn1] at hv1
 subst hv1
 have HN1 := hid_of hn1
 clear h hka hbx hb0 hp0 hu0 hl hn1
 go_enter Tryz.func100, Tryz.ntmps100
 go_upto_region 1 with fail
 generalize wr.alloc (.cells #[.int .i64 k, .string tx, .int .i64 n, .bool f] 138) = w1 at *
 generalize wr.heap.size = gx at *
 have hKwd : Kept (fun _ => False) w1 w1.drew := (Kept.refl _ _).drew
 have HSM : Hid (∀ w', Kept (fun q => (Value.slice a1 n1 c1).ownBlock = some q ∨ q = c) w1 w' → w'.cell? ⟨gx, 0, none⟩ = some (.int .i64 k) ∧ w'.cell? ⟨gx, 1, none⟩ = some (.string tx) ∧ w'.cell? ⟨gx, 2, none⟩ = some (.int .i64 n) ∧ w'.cell? ⟨gx, 3, none⟩ = some (.bool f)) := fun w' hw =>
  ⟨hw.cell (cell_block _ _ 0 _ _ _ HBX.out) HNE.out, hw.cell (cell_block _ _ 1 _ _ _ HBX.out) HNE.out, hw.cell (cell_block _ _ 2 _ _ _ HBX.out) HNE.out, hw.cell (cell_block _ _ 3 _ _ _ HBX.out) HNE.out⟩
 refine wp_region_held_drew (S := fun w' => Kept (fun q => (Value.slice a1 n1 c1).ownBlock = some q ∨ q = c) w1 w') (by kernel_rfl) ((Kept.refl _ _).drew) (fun hHeld => ?_)
 generalize w1.drew = wd at *
 obtain ⟨v', w5, hr, ho, hk0, hk1, hn⟩ := push_piece (hKwd.ownsRow HP.out (fun _ _ f => f)) (.int .i64 k) (.string tx) (.int .i64 n) (.bool f) rfl rfl rfl rfl (HK.out.trans hKwd) HL.out
 have hbd := box_kept hKwd HB.out id
 have l0 := cell_block _ _ 0 _ _ _ hbd
 have hb5 := box_kept hk1 hbd (fun e => own_box2 (hKwd.ownsRow HP.out (fun _ _ f => f)) hbd (by decide) e)
 have HKS5 := hid_of ((hKwd.mono (T := fun q => (Value.slice a1 n1 c1).ownBlock = some q ∨ q = c) (fun _ _ f => f.elim)).trans (hk1.mono (fun _ _ e => .inl e)))
 have hs := kept_set w5 c 0 v'
 have HKS6 := hid_of (HKS5.out.setCell (p := ⟨c, 0, none⟩) (.inr (.inr rfl)) v')
 have HG1 := hid_of (And.intro (cell_block _ _ 0 _ _ _ hb5) (frozen_block _ _ 0 _ _ hb5))
 have HB6 := hid_of (set_block _ _ 0 _ _ _ hb5 v')
 have HP6 := hid_of (hs.ownsRow ho (fun q hq e => own_box2 ho hb5 (by decide) (by rw [hq, e])))
 have hit := box_kept hk1 (box_kept hKwd HIT.out id) (own_iter (hKwd.ownsRow HP.out (fun _ _ f => f)) (box_kept hKwd HIT.out id))
 have HI6 := hid_of (box_kept hs hit (box_iter hb5 hit))
 have HK6 := hid_of (hk0.setCell (p := ⟨c, 0, none⟩) (.inl HLO.out) v')
 obtain ⟨a2, c2, hv2⟩ := ownsRow_shape ho
 obtain ⟨n2, hn2⟩ := nmd (ps.length + 1)
 rw [← hn2] at hv2
 subst hv2
 have HR := hid_of hr
 clear hr ho hk0 hk1 hn hbd hb5 hs hn2 hit
 iterate 4
  refine tkn (v := ?_) 0 rfl ?_ ?_; rotate_left 1
  ·intro w hSw; go_simp; try with_reducible rfl
  try simp only [Act.put, tdy]
 iterate 1
  refine tkn (v := ?_) 5 rfl ?_ ?_; rotate_left 1
  ·intro w hSw; obtain ⟨s0, s1, s2, s3⟩ := HSM.out w hSw; go_simp; try with_reducible rfl
  try simp only [Act.put, tdy]
 refine (fun (hfin : ?G) => ?main) ?fin
 case main =>
  refine wpAnyH_ready (rs := [4, 6]) (by kernel_rfl) (by simp) ?_
  refine AllReadyH.cons rfl (fun K hK => ?_) (AllReadyH.cons rfl (fun K hK => ?_) AllReadyH.nil)
  ·have l1 := l0
   go_simp
   refine hK.out _ _ hHeld (fun hHeld => ?_)
   clear hK K
   try simp only [Act.put, tdy]
   clear l1
   refine rdy 6 rfl (fun K hK => ?_)
   go_simp
   refine hK.out _ _ (hHeld.alloc _) (fun hHeld => ?_)
   clear hK K
   try simp only [Act.put, tdy]
   refine rdy 7 rfl (fun K hK => ?_)
   refine step_app rfl (.tmp 8) (.tmp 10) 131 131 rfl _ _ rfl rfl (.slice a2 n2 c2) w5 HR.out ?_
   refine hK.out _ _ HKS5.out (fun hHeld => ?_)
   clear hK K
   try simp only [Act.put, tdy]
   iterate 2
    refine tkn (v := ?_) 8 rfl ?_ ?_; rotate_left 1
    ·intro w hSw; go_simp; try with_reducible rfl
    try simp only [Act.put, tdy]
   obtain ⟨g1, gf1⟩ := HG1.out
   refine rdy 10 rfl (fun K hK => ?_)
   go_simp
   refine hK.out _ _ HKS6.out (fun hHeld => ?_)
   clear hK K
   try simp only [Act.put, tdy]
   refine wpAnyH_done (by kernel_rfl) ?_ _
   exact hfin
  ·go_simp
   refine hK.out _ _ (hHeld.alloc _) (fun hHeld => ?_)
   clear hK K
   try simp only [Act.put, tdy]
   have l1 : (wd.alloc (.cells #[.int .i64 k, .string tx, .int .i64 n, .bool f] 138)).cell? ⟨c, 0, none⟩ = some (.slice a1 n1 c1) := ((Kept.refl (fun _ => False) wd).alloc _).cell l0 id
   refine rdy 4 rfl (fun K hK => ?_)
   go_simp
   refine hK.out _ _ hHeld (fun hHeld => ?_)
   clear hK K
   try simp only [Act.put, tdy]
   clear l1
   refine rdy 7 rfl (fun K hK => ?_)
   refine step_app rfl (.tmp 8) (.tmp 10) 131 131 rfl _ _ rfl rfl (.slice a2 n2 c2) w5 HR.out ?_
   refine hK.out _ _ HKS5.out (fun hHeld => ?_)
   clear hK K
   try simp only [Act.put, tdy]
   iterate 2
    refine tkn (v := ?_) 8 rfl ?_ ?_; rotate_left 1
    ·intro w hSw; go_simp; try with_reducible rfl
    try simp only [Act.put, tdy]
   obtain ⟨g1, gf1⟩ := HG1.out
   refine rdy 10 rfl (fun K hK => ?_)
   go_simp
   refine hK.out _ _ HKS6.out (fun hHeld => ?_)
   clear hK K
   try simp only [Act.put, tdy]
   refine wpAnyH_done (by kernel_rfl) ?_ _
   exact hfin
 clear l0 HSM HKS5 HKS6 HG1 HR hKwd hHeld
 generalize w5.setCell ⟨c, 0, none⟩ (.slice a2 n2 c2) = w6 at *
 have hb7 := set_block _ _ 2 _ _ _ HB6.out (.slice none 0 0)
 have hb8 := set_block _ _ 1 _ _ _ hb7 (.int .i64 1)
 have q0 := cell_block _ _ 2 _ _ _ HB6.out
 have q1 := frozen_block _ _ 2 _ _ HB6.out
 have q2 := cell_block _ _ 1 _ _ _ hb7
 have q3 := frozen_block _ _ 1 _ _ hb7
 have hs := (kept_set w6 c 2 (.slice none 0 0)).trans (kept_set _ c 1 (.int .i64 1))
 have H : Hid (Cg I w ((w6.setCell ⟨c, 2, none⟩ (.slice none 0 0)).setCell ⟨c, 1, none⟩ (.int .i64 1)) c (ps ++ [⟨k, tx, n, f⟩]) 1 [] hi) := by
  refine ⟨⟨_, _, hb8, ?_, World.ownsRow_nil _ _ _ _⟩, (HK6.out.setCell (.inl HLO.out) _).setCell (.inl HLO.out) _, HLO.out, box_kept hs HI6.out (box_iter HB6.out HI6.out), HIL.out⟩
  rw [List.length_append, fcells_snoc]
  exact hs.ownsRow HP6.out (fun q hq e => own_box2 HP6.out HB6.out (by decide) (by rw [hq, e]))
 clear hb7 hb8 hs
 go_wp2
 refine bodyPost_end (results_none rfl _ _ _) rfl ?_
 exact ⟨⟨_, rfl⟩, H.out⟩
end Go.Proofs.YtcahibbfejomcaaGreatDoor
namespace Go.Proofs.YtcahibbfejomcaaGreatDoor
open Go.RowKit
set_option linter.unusedVariables false
set_option linter.unusedSimpArgs false
set_option maxRecDepth 100000
theorem letter_yes (r : Int) (w : World) (h1 : 97 ≤ r) (h2 : r ≤ 122) :
  Calls Tryz.prog 130 #[.int .i32 r] w fun e w' => e = .returned (.bool true) ∧ w' = w := by
 go_enter Tryz.func130, Tryz.ntmps130
 go_wp2
 go_ret
 exact ⟨rfl, rfl⟩
theorem digit_yes (r : Int) (w : World) (h1 : 48 ≤ r) (h2 : r ≤ 57) :
  Calls Tryz.prog 131 #[.int .i32 r] w fun e w' => e = .returned (.bool true) ∧ w' = w := by
 go_enter Tryz.func131, Tryz.ntmps131
 go_wp2
 go_ret
 exact ⟨rfl, rfl⟩
abbrev dgs : ByteArray := ⟨#[48, 49, 50, 51, 52, 53, 54, 55, 56, 57]⟩
def z211 : Array Value := Array.replicate 256 (.bool false)
theorem zero211 : ∀ w, (zeroValue 239).run Tryz.prog w = .ok (.agg (Array.replicate 256 (.bool false))) w := fun w => by kernel_rfl
def dset : Array Value := Lib.setCells dgs.data.toList
attribute [irreducible] dset z211
structure Gl (w : World) : Prop where
 tab : Lib.TabIs Tryz.prog w "internal/strconv.uint64pow10" .u64 Lib.pow10Tab
 len : ∃ m, w.cell? ⟨1, 0, none⟩ = some (.int .i64 m)
 err : ∃ tp pv, w.cell? ⟨2, 0, none⟩ = some (.iface tp pv)
 lo : 8 ≤ w.heap.size
theorem var_block {P : Program} {w w' : World} {n : String} {g : Nat} (hg : P.globalNamed n = some g) (hb : w'.heap[g]? = w.heap[g]?) : w'.var? P n = w.var? P n := by
 unfold World.var?
 rw [hg]
 simp only [Option.bind_some, hb]
theorem pow_named : Tryz.prog.globalNamed "internal/strconv.uint64pow10" = some 3 := by kernel_rfl
theorem Gl.kept {S : Nat → Prop} {w w' : World} (h : Gl w) (hk : Kept S w w') (hS : ∀ q, q < 5 → ¬ S q) : Gl w' := by
 obtain ⟨m, hm⟩ := h.len
 obtain ⟨tp, pv, he⟩ := h.err
 have := h.lo
 refine ⟨?_, ⟨m, hk.cell hm (hS 1 (by decide))⟩, ⟨tp, pv, hk.cell he (hS 2 (by decide))⟩, Nat.le_trans h.lo hk.size⟩
 unfold Lib.TabIs
 rw [var_block pow_named (hk.block 3 (by omega) (hS 3 (by decide)))]
 exact h.tab
theorem Gl.same {w w' : World} (h : Gl w) (hk : Kept (fun _ => False) w w') : Gl w' := h.kept hk (fun _ _ f => f)
theorem kept_bytes (w : World) (t : ByteArray) : Kept (fun _ => False) w (Lib.bytesWorld w 5 t) := by
 refine ⟨rfl, rfl, rfl, ?_, fun k hk _ => ?_⟩
 ·simp [Lib.bytesWorld, World.freeze]
 ·show ((w.drew.alloc _).heap.modify _ _)[k]? = _
  rw [Array.getElem?_modify, if_neg (show ¬ w.heap.size = k by omega)]
  exact Below.heap_alloc w.drew _ _ hk
theorem size82 : (Tryz.prog.info? 138).map (·.size) = some 4 := by kernel_rfl
theorem take_snoc1 {α : Type} (l : List α) (k : Nat) (h : k < l.length) : l.take (k + 1) = l.take k ++ [l[k]] := by
 rw [List.take_add_one, List.getElem?_eq_getElem h]
 rfl
end Go.Proofs.YtcahibbfejomcaaGreatDoor

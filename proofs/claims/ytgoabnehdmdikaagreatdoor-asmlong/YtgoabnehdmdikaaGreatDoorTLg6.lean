import Derived.Test.YtgoabnehdmdikaaGreatDoorTLg5
set_option linter.unusedVariables false
set_option linter.unusedSimpArgs false
set_option maxRecDepth 100000
set_option maxHeartbeats 64000000
namespace Go.Proofs.YtgoabnehdmdikaaGreatDoor
open Go.RowKit
theorem Tryz.info130 : (Tryz.prog.info? 130).map (fun i => (i.zero, i.size, i.bytes)) = some (some (.agg #[.int .i64 0, .string ⟨#[]⟩, .int .i64 0, .bool false]), 4, 40) := by kernel_rfl
def Xx (W : World) (v v' : Value) : Prop := v'.ownBlock = v.ownBlock ∨ v'.ownBlock = some (W.heap.size + 1)
theorem Zcn {w0 W : World} {v : Value} {k : Nat} {xs : List Value} (h : W.ownsRow w0.heap.size 5 1 v k xs) (x : Value) (hone : x.oneCell' = true) (hk : Kept nF w0 W) (hl : k ≤ 900000) :
  ∃ v' w', (Builtin.append_ #[23, 23] 23 #[v, .slice (some ⟨W.heap.size, 0, none⟩) 1 1]).run Tryz.prog (W.alloc (.cells #[x] 5)) = .ok v' w' ∧ w'.ownsRow w0.heap.size 5 1 v' (k + 1) (xs ++ [x]) ∧ Kept nF w0 w' ∧ Kept (fun q => v.ownBlock = some q) W w' ∧ Xx W v v' := by
 obtain ⟨i0, hi, hz0, hz1, hz2⟩ := info_parts Tryz.info5
 obtain ⟨v', w', hr, h2, h3, h4, _⟩ := Zaa (P := Tryz.prog) (W.alloc (.cells #[x] 5)) w0.heap.size 23 23 5 i0 _ 1 1 Tryz.underlying23 hi hz0 hz1 hz2 rfl (by decide) v k xs (h.alloc _) ⟨W.heap.size, 0, none⟩ 1 1 [x] (by simp) (fun j u hj => by
  have hjl := (List.getElem?_eq_some_iff.1 hj).1
  have : j = 0 := by simpa using hjl
  subst this
  rw [Addr.add_lit, Zb _ _ _ _ _ _ (heap_alloc_new W _)]
  simpa using hj) (fun u hu => by simp at hu; subst hu; exact hone) (by unfold maxLen; omega) (by omega) (by have := hk.size; simp; omega)
 have hk1 : Kept (fun k => v.ownBlock = some k) W w' := ((Kept.refl _ W).alloc _).grown h3 (fun k hk => .inr hk)
 exact ⟨v', w', hr, h2, hk.step hk1 (fun i hi e => by have := (h.lt i e).1; omega), hk1, by simpa [Xx] using h4⟩
theorem Zhf {w0 W : World} {v : Value} {k : Nat} {xs : List Value} (h : W.ownsRow w0.heap.size 130 4 v k xs) (x0 x1 x2 x3 : Value) (h0 : x0.oneCell' = true) (h1 : x1.oneCell' = true) (h2 : x2.oneCell' = true) (h3 : x3.oneCell' = true) (hk : Kept nF w0 W) (hl : k ≤ 90000) :
  ∃ v' w', (Builtin.append_ #[123, 123] 123 #[v, .slice (some ⟨W.heap.size, 0, none⟩) 1 1]).run Tryz.prog (W.alloc (.cells #[x0, x1, x2, x3] 130)) = .ok v' w' ∧ w'.ownsRow w0.heap.size 130 4 v' (k + 1) (xs ++ [x0, x1, x2, x3]) ∧ Kept nF w0 w' ∧ Kept (fun q => v.ownBlock = some q) W w' ∧ Xx W v v' := by
 obtain ⟨i0, hi, hz0, hz1, hz2⟩ := info_parts Tryz.info130
 obtain ⟨v', w', hr, h2', h3', h4, _⟩ := Zaa (P := Tryz.prog) (W.alloc (.cells #[x0, x1, x2, x3] 130)) w0.heap.size 123 123 130 i0 _ 4 40 Tryz.underlying123 hi hz0 hz1 hz2 rfl (by decide) v k xs (h.alloc _) ⟨W.heap.size, 0, none⟩ 1 1 [x0, x1, x2, x3] (by simp) (fun j u hj => by
  have hjl := (List.getElem?_eq_some_iff.1 hj).1
  rw [Addr.add_lit, Nat.zero_add, Zb _ _ _ _ _ _ (heap_alloc_new W _)]
  simpa using hj) (fun u hu => by
   simp at hu
   rcases hu with rfl | rfl | rfl | rfl <;> assumption) (by unfold maxLen; omega) (by omega) (by have := hk.size; simp; omega)
 have hk1 : Kept (fun k => v.ownBlock = some k) W w' := ((Kept.refl _ W).alloc _).grown h3' (fun k hk => .inr hk)
 exact ⟨v', w', hr, h2', hk.step hk1 (fun i hi e => by have := (h.lt i e).1; omega), hk1, by simpa [Xx] using h4⟩
def Zo (l : List Int) : List Value := l.map (Value.int .u8)
theorem Zdb (l : List Int) (x : Int) : Zo (l ++ [x]) = Zo l ++ [.int .u8 x] := by simp [Zo]
variable {I : Nat × ByteArray × Nat}
theorem Zbn {w : World} {base e s : Nat} {v : Value} {n : Nat} {xs : List Value} (h : w.ownsRow base e s v n xs) {B : Nat} {t : ByteArray} {p : Nat} (hb : w.heap[B]? = some (.stringIter t p)) : v.ownBlock ≠ some B := fun hq => by
 rcases h.2 with ⟨rfl, _⟩ | ⟨g, cap, cur, rfl, _, hgg, _⟩
 ·cases hq
 ·simp [Value.ownBlock] at hq
  subst hq
  rw [hb] at hgg
  cases hgg
theorem Zb1 {w : World} {g B : Nat} {cs : Array Value} {t : TypeId} {f : Nat × Nat} {s : ByteArray} {p : Nat} (h : w.heap[g]? = some (.cells cs t f)) (hb : w.heap[B]? = some (.stringIter s p)) : B ≠ g := fun e => by
 rw [e, h] at hb
 cases hb
end Go.Proofs.YtgoabnehdmdikaaGreatDoor
namespace Go.Proofs.YtgoabnehdmdikaaGreatDoor
open Go.RowKit
structure Pf where
 k : Int
 s : ByteArray
 n : Int
 f : Bool
def Pf.cells (p : Pf) : List Value := [.int .i64 p.k, .string p.s, .int .i64 p.n, .bool p.f]
def Xn (ps : List Pf) : List Value := ps.flatMap Pf.cells
theorem Zae (ps : List Pf) (p : Pf) : Xn (ps ++ [p]) = Xn ps ++ [.int .i64 p.k, .string p.s, .int .i64 p.n, .bool p.f] := by simp [Xn, Pf.cells]
structure Cg (I : Nat × ByteArray × Nat) (w wr : World) (c : Nat) (ps : List Pf) (st : Int) (un : List Int) (hi : Int) : Prop where
 ex : ∃ pv uv, wr.heap[c]? = some (.cells #[pv, .int .i64 st, uv, .int .i64 hi] 160 (0, 0)) ∧ wr.ownsRow w.heap.size 130 4 pv ps.length (Xn ps) ∧ wr.ownsRow w.heap.size 5 1 uv un.length (Zo un)
 kept : Kept nF w wr
 lo : w.heap.size ≤ c
 it : wr.heap[I.1]? = some (.stringIter I.2.1 I.2.2)
 ilo : w.heap.size ≤ I.1
variable {I : Nat × ByteArray × Nat}
theorem Cg.same {w wr w' : World} {c : Nat} {ps : List Pf} {st : Int} {un : List Int} {hi : Int} (h : Cg I w wr c ps st un hi) (hk : Kept nF wr w') : Cg I w w' c ps st un hi := by
 obtain ⟨pv, uv, h1, h2, h3⟩ := h.ex
 exact ⟨⟨pv, uv, Zc hk h1 id, hk.ownsRow h2 (fun _ _ f => f), hk.ownsRow h3 (fun _ _ f => f)⟩, h.kept.trans hk, h.lo, Zc hk h.it id, h.ilo⟩
theorem Cg.setS {w wr : World} {c : Nat} {ps : List Pf} {st : Int} {un : List Int} {hi : Int} (h : Cg I w wr c ps st un hi) (x : Int) : Cg I w (wr.setCell ⟨c, 1, none⟩ (.int .i64 x)) c ps x un hi := by
 obtain ⟨pv, uv, h1, h2, h3⟩ := h.ex
 have hs := Zg wr c 1 (.int .i64 x)
 exact ⟨⟨pv, uv, Zf _ _ 1 _ _ _ h1 _, hs.ownsRow h2 (fun q hq e => Zs h2 h1 (by decide) (by rw [hq, e])), hs.ownsRow h3 (fun q hq e => Zs h3 h1 (by decide) (by rw [hq, e]))⟩, h.kept.setCell (.inl h.lo) _, h.lo, Zc hs h.it (Zb1 h1 h.it), h.ilo⟩
theorem Zgc (c : Nat) (r : Int) (w wr : World) (ps : List Pf) (st : Int) (un : List Int) (hi : Int) (h : Cg I w wr c ps st un hi) (h0 : 0 ≤ r) (h1 : r < 256) (hl : un.length ≤ 900000) :
  Calls Tryz.prog 107 #[.pointer (some ⟨c, 0, none⟩), .int .i32 r] wr fun e w' => (∃ v, e = .returned v) ∧ Cg I w w' c ps st (un ++ [r]) hi := by
 obtain ⟨pv, uv, hb, hp, hu⟩ := h.ex
 obtain ⟨v', w', hr, ho, hk0, hk1, hn⟩ := Zcn hu (.int .u8 r) rfl h.kept hl
 have hb' := Zc hk1 hb (fun e => Zs hu hb (by decide) e)
 have hp' := hk1.ownsRow hp (fun q hq e => Zh2 hu hp (by decide) q e hq)
 have hs := Zg w' c 2 v'
 have H : Hid (Cg I w (w'.setCell ⟨c, 2, none⟩ v') c ps st (un ++ [r]) hi) := by
  refine ⟨⟨pv, v', Zf _ _ 2 _ _ _ hb' _, hs.ownsRow hp' (fun q hq e => Zs hp' hb' (by decide) (by rw [hq, e])), ?_⟩, hk0.setCell (.inl h.lo) _, h.lo, Zc hs (Zc hk1 h.it (Zbn hu h.it)) (Zb1 hb' (Zc hk1 h.it (Zbn hu h.it))), h.ilo⟩
  rw [List.length_append, Zdb]
  exact hs.ownsRow ho (fun q hq e => Zs ho hb' (by decide) (by rw [hq, e]))
 obtain ⟨a1, c1, hv1⟩ := Zd hu
 obtain ⟨n1, hn1⟩ := nmd (un.length)
 rw [← hn1] at hv1
 subst hv1
 have q2 := Zb _ _ 2 _ _ _ hb
 have q3 := Zb _ _ 2 _ _ _ hb'
 have q4 := Ze _ _ 2 _ _ hb'
 have HR := Za hr
 obtain ⟨a2, c2, hv2⟩ := Zd ho
 obtain ⟨n2, hn2⟩ := nmd (un.length + 1)
 rw [← hn2] at hv2
 subst hv2
 have hw8 : IntKind.wrap .u8 r = r := by simp [IntKind.wrap, IntKind.bits, IntKind.signed]; omega
 clear hr ho hk0 hk1 hn hp hu hp' hs hn1 hn2 hb hb' h hl
 go_enter Tryz.func107, Tryz.ntmps107
 go_wp2_with (at_builtin; refine Zr rfl (.tmp 8) (.tmp 11) 23 23 rfl _ _ rfl rfl _ w' HR.out ?_)
 refine bodyPost_end (results_none rfl _ _ _) rfl ?_
 exact ⟨⟨_, rfl⟩, H.out⟩
theorem Zk6 (c : Nat) (k : Int) (tx : ByteArray) (n : Int) (f : Bool) (w wr : World) (ps : List Pf) (st : Int) (un : List Int) (hi : Int) (h : Cg I w wr c ps st un hi) (hl : ps.length ≤ 90000) :
  Calls Tryz.prog 112 #[.pointer (some ⟨c, 0, none⟩), .agg #[.int .i64 k, .string tx, .int .i64 n, .bool f]] wr fun e w' => (∃ v, e = .returned v) ∧ Cg I w w' c (ps ++ [⟨k, tx, n, f⟩]) 1 [] hi := by
 have hka : Kept nF wr (wr.alloc (.cells #[.int .i64 k, .string tx, .int .i64 n, .bool f] 130)) := (Kept.refl _ _).alloc _
 have hbx := heap_alloc_new wr (.cells #[.int .i64 k, .string tx, .int .i64 n, .bool f] 130)
 obtain ⟨pv, uv, hb0, hp0, hu0⟩ := h.ex
 have HNE : Hid (¬ (pv.ownBlock = some wr.heap.size ∨ wr.heap.size = c)) := fun e => by
  rcases e with e | e
  ·have := (hp0.lt _ e).2; omega
  ·have := (Array.getElem?_eq_some_iff.1 hb0).1; omega
 have HB := Za (Zc hka hb0 id)
 have HP := Za (hka.ownsRow hp0 (fun _ _ f => f))
 have HK := Za (h.kept.trans hka)
 have HLO := Za h.lo
 have HIT := Za (Zc hka h.it id)
 have HIL := Za h.ilo
 have HBX := Za hbx
 have HL := Za hl
 obtain ⟨a1, c1, hv1⟩ := Zd hp0
 obtain ⟨n1, hn1⟩ := nmd (ps.length)
 rw [← hn1] at hv1
 subst hv1
 have HN1 := Za hn1
 clear h hka hbx hb0 hp0 hu0 hl hn1
 go_enter Tryz.func112, Tryz.ntmps112
 go_upto_region 1 with fail
 generalize wr.alloc (.cells #[.int .i64 k, .string tx, .int .i64 n, .bool f] 130) = w1 at *
 generalize wr.heap.size = gx at *
 have hKwd : Kept nF w1 w1.drew := (Kept.refl _ _).drew
 have HSM : Hid (∀ w', Kept (fun q => (Value.slice a1 n1 c1).ownBlock = some q ∨ q = c) w1 w' → w'.cell? ⟨gx, 0, none⟩ = some (.int .i64 k) ∧ w'.cell? ⟨gx, 1, none⟩ = some (.string tx) ∧ w'.cell? ⟨gx, 2, none⟩ = some (.int .i64 n) ∧ w'.cell? ⟨gx, 3, none⟩ = some (.bool f)) := fun w' hw =>
  ⟨hw.cell (Zb _ _ 0 _ _ _ HBX.out) HNE.out, hw.cell (Zb _ _ 1 _ _ _ HBX.out) HNE.out, hw.cell (Zb _ _ 2 _ _ _ HBX.out) HNE.out, hw.cell (Zb _ _ 3 _ _ _ HBX.out) HNE.out⟩
 refine wp_region_held_drew (S := fun w' => Kept (fun q => (Value.slice a1 n1 c1).ownBlock = some q ∨ q = c) w1 w') (by kernel_rfl) ((Kept.refl _ _).drew) (fun qh => ?_)
 generalize w1.drew = wd at *
 obtain ⟨v', w5, hr, ho, hk0, hk1, hn⟩ := Zhf (hKwd.ownsRow HP.out (fun _ _ f => f)) (.int .i64 k) (.string tx) (.int .i64 n) (.bool f) rfl rfl rfl rfl (HK.out.trans hKwd) HL.out
 have hbd := Zc hKwd HB.out id
 have l0 := Zb _ _ 0 _ _ _ hbd
 have hb5 := Zc hk1 hbd (fun e => Zs (hKwd.ownsRow HP.out (fun _ _ f => f)) hbd (by decide) e)
 have HKS5 := Za ((hKwd.mono (T := fun q => (Value.slice a1 n1 c1).ownBlock = some q ∨ q = c) (fun _ _ f => f.elim)).trans (hk1.mono (fun _ _ e => .inl e)))
 have hs := Zg w5 c 0 v'
 have HKS6 := Za (HKS5.out.setCell (p := ⟨c, 0, none⟩) (.inr (.inr rfl)) v')
 have HG1 := Za (And.intro (Zb _ _ 0 _ _ _ hb5) (Ze _ _ 0 _ _ hb5))
 have HB6 := Za (Zf _ _ 0 _ _ _ hb5 v')
 have HP6 := Za (hs.ownsRow ho (fun q hq e => Zs ho hb5 (by decide) (by rw [hq, e])))
 have hit := Zc hk1 (Zc hKwd HIT.out id) (Zbn (hKwd.ownsRow HP.out (fun _ _ f => f)) (Zc hKwd HIT.out id))
 have HI6 := Za (Zc hs hit (Zb1 hb5 hit))
 have HK6 := Za (hk0.setCell (p := ⟨c, 0, none⟩) (.inl HLO.out) v')
 obtain ⟨a2, c2, hv2⟩ := Zd ho
 obtain ⟨n2, hn2⟩ := nmd (ps.length + 1)
 rw [← hn2] at hv2
 subst hv2
 have HR := Za hr
 clear hr ho hk0 hk1 hn hbd hb5 hs hn2 hit
 iterate 4
  refine tkn (v := ?_) 0 rfl ?_ ?_; rotate_left
  ·intro w hSw; go_simp; try with_reducible rfl
  try simp only [Act.put, tdy]
 iterate 1
  refine tkn (v := ?_) 5 rfl ?_ ?_; rotate_left
  ·intro w hSw; obtain ⟨s0, s1, s2, s3⟩ := HSM.out w hSw; go_simp; try with_reducible rfl
  try simp only [Act.put, tdy]
 refine (fun (hfin : ?G) => ?main) ?fin
 case main =>
  refine wpAnyH_ready (rs := [4, 6]) (by kernel_rfl) (by simp) ?_
  refine AllReadyH.cons rfl (fun K hK => ?_) (AllReadyH.cons rfl (fun K hK => ?_) AllReadyH.nil)
  ·have l1 := l0
   go_simp
   refine hK.out _ _ qh (fun qh => ?_)
   clear hK K
   try simp only [Act.put, tdy]
   clear l1
   refine rdy 6 rfl (fun K hK => ?_)
   go_simp
   refine hK.out _ _ (qh.alloc _) (fun qh => ?_)
   clear hK K
   try simp only [Act.put, tdy]
   refine rdy 7 rfl (fun K hK => ?_)
   refine Zm rfl (.tmp 8) (.tmp 10) 123 123 rfl _ _ rfl rfl (.slice a2 n2 c2) w5 HR.out ?_
   refine hK.out _ _ HKS5.out (fun qh => ?_)
   clear hK K
   try simp only [Act.put, tdy]
   iterate 2
    refine tkn (v := ?_) 8 rfl ?_ ?_; rotate_left
    ·intro w hSw; go_simp; try with_reducible rfl
    try simp only [Act.put, tdy]
   obtain ⟨g1, gf1⟩ := HG1.out
   refine rdy 10 rfl (fun K hK => ?_)
   go_simp
   refine hK.out _ _ HKS6.out (fun qh => ?_)
   clear hK K
   try simp only [Act.put, tdy]
   refine wpAnyH_done (by kernel_rfl) ?_ _
   exact hfin
  ·go_simp
   refine hK.out _ _ (qh.alloc _) (fun qh => ?_)
   clear hK K
   try simp only [Act.put, tdy]
   have l1 : (wd.alloc (.cells #[.int .i64 k, .string tx, .int .i64 n, .bool f] 130)).cell? ⟨c, 0, none⟩ = some (.slice a1 n1 c1) := ((Kept.refl nF wd).alloc _).cell l0 id
   refine rdy 4 rfl (fun K hK => ?_)
   go_simp
   refine hK.out _ _ qh (fun qh => ?_)
   clear hK K
   try simp only [Act.put, tdy]
   clear l1
   refine rdy 7 rfl (fun K hK => ?_)
   refine Zm rfl (.tmp 8) (.tmp 10) 123 123 rfl _ _ rfl rfl (.slice a2 n2 c2) w5 HR.out ?_
   refine hK.out _ _ HKS5.out (fun qh => ?_)
   clear hK K
   try simp only [Act.put, tdy]
   iterate 2
    refine tkn (v := ?_) 8 rfl ?_ ?_; rotate_left
    ·intro w hSw; go_simp; try with_reducible rfl
    try simp only [Act.put, tdy]
   obtain ⟨g1, gf1⟩ := HG1.out
   refine rdy 10 rfl (fun K hK => ?_)
   go_simp
   refine hK.out _ _ HKS6.out (fun qh => ?_)
   clear hK K
   try simp only [Act.put, tdy]
   refine wpAnyH_done (by kernel_rfl) ?_ _
   exact hfin
 clear l0 HSM HKS5 HKS6 HG1 HR hKwd qh
 generalize w5.setCell ⟨c, 0, none⟩ (.slice a2 n2 c2) = w6 at *
 have hb7 := Zf _ _ 2 _ _ _ HB6.out (.slice none 0 0)
 have hb8 := Zf _ _ 1 _ _ _ hb7 (.int .i64 1)
 have q0 := Zb _ _ 2 _ _ _ HB6.out
 have q1 := Ze _ _ 2 _ _ HB6.out
 have q2 := Zb _ _ 1 _ _ _ hb7
 have q3 := Ze _ _ 1 _ _ hb7
 have hs := (Zg w6 c 2 (.slice none 0 0)).trans (Zg _ c 1 (.int .i64 1))
 have H : Hid (Cg I w ((w6.setCell ⟨c, 2, none⟩ (.slice none 0 0)).setCell ⟨c, 1, none⟩ (.int .i64 1)) c (ps ++ [⟨k, tx, n, f⟩]) 1 [] hi) := by
  refine ⟨⟨_, _, hb8, ?_, World.ownsRow_nil _ _ _ _⟩, (HK6.out.setCell (.inl HLO.out) _).setCell (.inl HLO.out) _, HLO.out, Zc hs HI6.out (Zb1 HB6.out HI6.out), HIL.out⟩
  rw [List.length_append, Zae]
  exact hs.ownsRow HP6.out (fun q hq e => Zs HP6.out HB6.out (by decide) (by rw [hq, e]))
 clear hb7 hb8 hs
 go_wp2
 refine bodyPost_end (results_none rfl _ _ _) rfl ?_
 exact ⟨⟨_, rfl⟩, H.out⟩
end Go.Proofs.YtgoabnehdmdikaaGreatDoor
namespace Go.Proofs.YtgoabnehdmdikaaGreatDoor
open Go.RowKit
theorem Znt (r : Int) (w : World) (h1 : 97 ≤ r) (h2 : r ≤ 122) :
  Calls Tryz.prog 134 #[.int .i32 r] w fun e w' => e = .returned (.bool true) ∧ w' = w := by
 go_enter Tryz.func134, Tryz.ntmps134
 go_wp2
 go_ret
 exact ⟨rfl, rfl⟩
theorem Zpz (r : Int) (w : World) (h1 : 48 ≤ r) (h2 : r ≤ 57) :
  Calls Tryz.prog 135 #[.int .i32 r] w fun e w' => e = .returned (.bool true) ∧ w' = w := by
 go_enter Tryz.func135, Tryz.ntmps135
 go_wp2
 go_ret
 exact ⟨rfl, rfl⟩
abbrev dgs : ByteArray := ⟨#[48, 49, 50, 51, 52, 53, 54, 55, 56, 57]⟩
def Zx7 : Array Value := Array.replicate 256 (.bool false)
theorem Zu8 : ∀ w, (zeroValue 260).run Tryz.prog w = .ok (.agg (Array.replicate 256 (.bool false))) w := fun w => by kernel_rfl
def Zx8 : Array Value := Lib.setCells dgs.data.toList
attribute [irreducible] Zx8 Zx7
structure Gl (w : World) : Prop where
 tab : Lib.TabIs Tryz.prog w "internal/strconv.uint64pow10" .u64 Lib.pow10Tab
 len : ∃ m, w.cell? ⟨0, 0, none⟩ = some (.int .i64 m)
 err : ∃ tp pv, w.cell? ⟨1, 0, none⟩ = some (.iface tp pv)
 lo : 8 ≤ w.heap.size
theorem Zi1 {P : Program} {w w' : World} {n : String} {g : Nat} (hg : P.globalNamed n = some g) (hb : w'.heap[g]? = w.heap[g]?) : w'.var? P n = w.var? P n := by
 unfold World.var?
 rw [hg]
 simp only [Option.bind_some, hb]
theorem Zi2 : Tryz.prog.globalNamed "internal/strconv.uint64pow10" = some 4 := by kernel_rfl
theorem Gl.kept {S : Nat → Prop} {w w' : World} (h : Gl w) (hk : Kept S w w') (hS : ∀ q, q < 5 → ¬ S q) : Gl w' := by
 obtain ⟨m, hm⟩ := h.len
 obtain ⟨tp, pv, he⟩ := h.err
 have := h.lo
 refine ⟨?_, ⟨m, hk.cell hm (hS 0 (by decide))⟩, ⟨tp, pv, hk.cell he (hS 1 (by decide))⟩, Nat.le_trans h.lo hk.size⟩
 unfold Lib.TabIs
 rw [Zi1 Zi2 (hk.block 4 (by omega) (hS 4 (by decide)))]
 exact h.tab
theorem Gl.same {w w' : World} (h : Gl w) (hk : Kept nF w w') : Gl w' := h.kept hk (fun _ _ f => f)
theorem Zhg (w : World) (t : ByteArray) : Kept nF w (Lib.bytesWorld w 5 t) := by
 refine ⟨rfl, rfl, rfl, ?_, fun k hk _ => ?_⟩
 ·simp [Lib.bytesWorld, World.freeze]
 ·show ((w.drew.alloc _).heap.modify _ _)[k]? = _
  rw [Array.getElem?_modify, if_neg (show ¬ w.heap.size = k by omega)]
  exact Below.heap_alloc w.drew _ _ hk
theorem Zk7 : (Tryz.prog.info? 130).map (·.size) = some 4 := by kernel_rfl
theorem Zag {α : Type} (l : List α) (k : Nat) (h : k < l.length) : l.take (k + 1) = l.take k ++ [l[k]] := by
 rw [List.take_add_one, List.getElem?_eq_getElem h]
 rfl
def FsAt (w : World) (g o : Nat) (ps : List Pf) : Prop := ∀ i p, ps[i]? = some p → w.rangeAt g (o + i * 4) p.cells
theorem FsAt.kept {S : Nat → Prop} {w w' : World} {g o : Nat} {ps : List Pf} (h : FsAt w g o ps) (hk : Kept S w w') (hn : ¬ S g) : FsAt w' g o ps := fun i p hp j v hv => hk.cell (h i p hp j v hv) hn
theorem Zi3 (ps : List Pf) : ∀ (i : Nat) (p : Pf), ps[i]? = some p → ∀ (j : Nat), j < 4 → (Xn ps)[i * 4 + j]? = p.cells[j]? := by
 induction ps with
 | nil => intro i p h; simp at h
 | cons q qs ih =>
  intro i p h j hj
  have e : Xn (q :: qs) = q.cells ++ Xn qs := rfl
  have hl : q.cells.length = 4 := rfl
  rw [e]
  cases i with
  | zero =>
   simp at h
   subst h
   rw [List.getElem?_append_left (by rw [hl]; omega)]
   simp
  | succ i =>
   rw [List.getElem?_append_right (by rw [hl]; omega), hl, show (i + 1) * 4 + j - 4 = i * 4 + j by omega]
   exact ih i p (by simpa using h) j hj
theorem Zsk {w : World} {B g c n : Nat} {ps : List Pf} (h : w.ownsRow B 130 4 (.slice (some ⟨g, 0, none⟩) n c) ps.length (Xn ps)) : FsAt w g 0 ps := fun i p hp j v hv => by
 have hj : j < 4 := by
  have := (List.getElem?_eq_some_iff.1 hv).1
  exact this
 have := h.cells (g := g) rfl (i * 4 + j) v (by rw [Zi3 ps i p hp j hj]; exact hv)
 rw [Addr.add_lit, Nat.zero_add] at this
 show w.cell? ⟨g, 0 + i * 4 + j, none⟩ = _
 rw [Nat.zero_add]
 exact this
theorem FsAt.drop {w : World} {g o : Nat} {ps : List Pf} (h : FsAt w g o ps) (k : Nat) : FsAt w g (o + k * 4) (ps.drop k) := fun i p hp => by
 have := h (k + i) p (by rw [List.getElem?_drop] at hp; exact hp)
 rw [show o + k * 4 + i * 4 = o + (k + i) * 4 by omega]
 exact this
theorem Zxf (k : Int) (s : ByteArray) (n : Int) (f : Bool) (x : Int) (w : World) : Calls Tryz.prog 115 #[.agg #[.int .i64 k, .string s, .int .i64 n, .bool f], .int .i64 x] w fun e w' => e = .returned (.bool (k == x)) ∧ Kept nF w w' := by
 have hk : Kept nF w (w.alloc (.cells #[.int .i64 k, .string s, .int .i64 n, .bool f] 130)) := (Kept.refl _ _).alloc _
 have c0 := Zb _ _ 0 _ _ _ (heap_alloc_new w (.cells #[.int .i64 k, .string s, .int .i64 n, .bool f] 130))
 have HK := Za hk
 clear hk
 go_enter Tryz.func115, Tryz.ntmps115
 go_wp2
 go_ret
 exact ⟨rfl, HK.out⟩
theorem Zx9 (k : Int) (s : ByteArray) (n : Int) (f : Bool) (w : World) : Calls Tryz.prog 119 #[.agg #[.int .i64 k, .string s, .int .i64 n, .bool f]] w fun e w' => e = .returned (.bool f) ∧ Kept nF w w' := by
 have hk : Kept nF w (w.alloc (.cells #[.int .i64 k, .string s, .int .i64 n, .bool f] 130)) := (Kept.refl _ _).alloc _
 have c0 := Zb _ _ 3 _ _ _ (heap_alloc_new w (.cells #[.int .i64 k, .string s, .int .i64 n, .bool f] 130))
 have HK := Za hk
 clear hk
 go_enter Tryz.func119, Tryz.ntmps119
 go_wp2
 go_ret
 exact ⟨rfl, HK.out⟩
theorem Zya (g o n c gk m ck : Nat) (ps : List Pf) (ks : List Int) (w : World) (hP : FsAt w g o ps) (hK : ∀ i x, ks[i]? = some x → w.cell? ⟨gk, i, none⟩ = some (.int .i64 x)) (hn : n = ps.length) (hm : m = ks.length) (hl : n ≤ 90000) (hl2 : m ≤ 90000) :
  Calls Tryz.prog 114 #[.slice (some ⟨g, o, none⟩) n c, .slice (some ⟨gk, 0, none⟩) m ck, .func (.func 115) #[] #[]] w fun e w' => e = .returned (.bool (decide (ps.map Pf.k = ks))) ∧ Kept nF w w' := by
 have HP := Za hP
 have HKS := Za hK
 have HN := Za hn
 have HM := Za hm
 by_cases hnm : n = m
 ·subst hnm
  clear hP hK hn hm hl2
  go_enter Tryz.func114, Tryz.ntmps114
  go_wp2_with fail
  go_loopw [17] (fun iv wr => ∃ k : Nat, k ≤ n ∧ iv = .int .i64 (k : Int) ∧ Hid (Kept nF w wr) ∧ Hid ((ps.take k).map Pf.k = ks.take k)) (fun iv _ => n - (intOf iv).toNat)
  case atStart => exact ⟨0, by omega, rfl, Kept.refl _ _, by simp [Hid]⟩
  case round =>
   obtain ⟨k, hk, rfl, HK, HE⟩ := hrel
   by_cases hlt : k < n
   ·have hltI : (k : Int) < (n : Int) := by omega
    have hkp : k < ps.length := by rw [← HN.out]; exact hlt
    have hkk : k < ks.length := by rw [← HM.out]; exact hlt
    have hrg0 := (HP.out.kept HK.out id) k ps[k] (List.getElem?_eq_getElem hkp)
    have q1 := HK.out.cell (HKS.out k ks[k] (List.getElem?_eq_getElem hkk)) id
    have HS : Hid ((ps.take (k + 1)).map Pf.k = (ps.take k).map Pf.k ++ [ps[k].k] ∧ ks.take (k + 1) = ks.take k ++ [ks[k]]) := by
     unfold Hid
     rw [Zag ps k hkp, Zag ks k hkk, List.map_append]
     exact ⟨rfl, rfl⟩
    have HNE : Hid (ps[k].k ≠ ks[k] → ps.map Pf.k ≠ ks) := fun hne e => hne (by
     have := congrArg (fun l => l[k]?) e
     simp [List.getElem?_eq_getElem hkp, List.getElem?_eq_getElem hkk] at this
     exact this)
    generalize hpk : ps[k] = p at *
    generalize hxk : ks[k] = x at *
    clear hpk hxk hkp hkk
    obtain ⟨pk, pt, pn, pf⟩ := p
    have hrg : wr.rangeAt g (o + k * 4) [.int .i64 pk, .string pt, .int .i64 pn, .bool pf] := hrg0
    have r0 := hrg 0 _ rfl
    have r1 := hrg 1 _ rfl
    have r2 := hrg 2 _ rfl
    have r3 := hrg 3 _ rfl
    simp only [Nat.add_zero] at r0
    have hka : Kept nF wr (wr.alloc (.cells #[.int .i64 pk, .string pt, .int .i64 pn, .bool pf] 130)) := (Kept.refl _ _).alloc _
    have HB := Za (heap_alloc_new wr (.cells #[.int .i64 pk, .string pt, .int .i64 pn, .bool pf] 130))
    have q2 := hka.cell q1 id
    have HKA := Za (HK.out.trans hka)
    clear hrg0 hrg hka q1
    go_upto_region 6 with fail
    clear r0 r1 r2 r3
    generalize wr.alloc (.cells #[.int .i64 pk, .string pt, .int .i64 pn, .bool pf] 130) = W1 at *
    generalize wr.heap.size = gx at *
    obtain ⟨c0, c1, c2, c3, _⟩ := Yk HB.out
    have HC := Za (Zxf pk pt pn pf x W1)
    go_wp2_with fail
    refine HC.out.mono ?_
    rintro e W2 ⟨rfl, hk2⟩
    have HK2 := Za (HKA.out.trans hk2)
    clear hk2 HC HKA HK HB c0 c1 c2 c3 q2
    by_cases hpx : pk = x
    ·have hb : (pk == x) = true := by simp [hpx]
     rw [hb]
     have HE2 : Hid ((ps.take (k + 1)).map Pf.k = ks.take (k + 1)) := by
      unfold Hid
      rw [HS.out.1, HS.out.2, HE.out, hpx]
     clear hb hpx
     go_wp2
     go_roundw
     case rel => exact ⟨k + 1, by omega, by go_num, HK2, HE2⟩
     case measure => simp [intOf]; omega
    ·have hb : (pk == x) = false := by simp [hpx]
     rw [hb]
     have HR : Hid (decide (ps.map Pf.k = ks) = false) := decide_eq_false (HNE.out hpx)
     clear hb hpx
     go_wp2
     go_ret
     exact ⟨by rw [HR.out]; rfl, HK2.out⟩
   ·have e : k = n := by omega
    subst e
    have HR : Hid (decide (ps.map Pf.k = ks) = true) := by
     unfold Hid
     apply decide_eq_true
     have := HE.out
     rw [List.take_of_length_le (by rw [← HN.out]; omega), List.take_of_length_le (by rw [← HM.out]; omega)] at this
     exact this
    have hkI : ¬ ((k : Int) < (k : Int)) := by omega
    go_wp2
    go_ret
    exact ⟨by rw [HR.out]; rfl, HK.out⟩
 ·have hbq : ((n : Int) != (m : Int)) = true := by simp; omega
  have HR : Hid (decide (ps.map Pf.k = ks) = false) := by
   unfold Hid
   apply decide_eq_false
   intro e
   have := congrArg List.length e
   rw [List.length_map] at this
   omega
  clear hP hK hn hm hnm
  go_enter Tryz.func114, Tryz.ntmps114
  go_wp2
  go_ret
  exact ⟨by rw [HR.out]; rfl, Kept.refl _ _⟩
theorem Zgd (g o n c gk m ck : Nat) (ps : List Pf) (ks : List Int) (w : World) (hP : FsAt w g o ps) (hK : ∀ i x, ks[i]? = some x → w.cell? ⟨gk, i, none⟩ = some (.int .i64 x)) (hn : n = ps.length) (hm : m = ks.length) (hl : n ≤ 90000) (hl2 : m ≤ 90000) :
  Calls Tryz.prog 82 #[.slice (some ⟨g, o, none⟩) n c, .slice (some ⟨gk, 0, none⟩) m ck] w fun e w' => e = .returned (.bool (decide (ps.map Pf.k = ks))) ∧ Kept nF w w' := by
 have HC := Za (Zya g o n c gk m ck ps ks w hP hK hn hm hl hl2)
 generalize decide (ps.map Pf.k = ks) = q at *
 clear hP hK hn hm hl hl2
 go_enter Tryz.func82, Tryz.ntmps82
 go_wp2_with fail
 refine HC.out.mono ?_
 rintro e W2 ⟨rfl, hk2⟩
 have HK2 := Za hk2
 clear hk2 HC
 go_wp2
 go_ret
 exact ⟨rfl, HK2.out⟩
theorem Zp0 (g o n c : Nat) (ps : List Pf) (w : World) (hP : FsAt w g o ps) (hn : n = ps.length) (hl : n ≤ 90000) :
  Calls Tryz.prog 144 #[.slice (some ⟨g, o, none⟩) n c, .func (.func 119) #[] #[]] w fun e w' => ∃ i : Int, e = .returned (.int .i64 i) ∧ decide (0 ≤ i) = ps.any Pf.f ∧ Kept nF w w' := by
 have HP := Za hP
 have HN := Za hn
 clear hP hn
 go_enter Tryz.func144, Tryz.ntmps144
 go_wp2_with fail
 go_loopw [8] (fun iv wr => ∃ k : Nat, k ≤ n ∧ iv = .int .i64 (k : Int) ∧ Hid (Kept nF w wr) ∧ Hid ((ps.take k).any Pf.f = false)) (fun iv _ => n - (intOf iv).toNat)
 case atStart => exact ⟨0, by omega, rfl, Kept.refl _ _, by simp [Hid]⟩
 case round =>
  obtain ⟨k, hk, rfl, HK, HA⟩ := hrel
  by_cases hlt : k < n
  ·have hltI : (k : Int) < (n : Int) := by omega
   have hkp : k < ps.length := by rw [← HN.out]; exact hlt
   have hrg0 := (HP.out.kept HK.out id) k ps[k] (List.getElem?_eq_getElem hkp)
   have HYES : Hid (ps[k].f = true → ps.any Pf.f = true) := fun h => List.any_eq_true.2 ⟨ps[k], List.getElem_mem _, h⟩
   have HNO : Hid (ps[k].f = false → (ps.take (k + 1)).any Pf.f = false) := fun h => by
    rw [Zag ps k hkp, List.any_append, HA.out]
    simp [h]
   generalize hpk : ps[k] = p at *
   clear hpk hkp
   obtain ⟨pk, pt, pn, pf⟩ := p
   have hrg : wr.rangeAt g (o + k * 4) [.int .i64 pk, .string pt, .int .i64 pn, .bool pf] := hrg0
   have r0 := hrg 0 _ rfl
   have r1 := hrg 1 _ rfl
   have r2 := hrg 2 _ rfl
   have r3 := hrg 3 _ rfl
   simp only [Nat.add_zero] at r0
   have HC := Za (Zx9 pk pt pn pf wr)
   clear hrg0 hrg
   go_wp2_with fail
   refine HC.out.mono ?_
   rintro e W2 ⟨rfl, hk2⟩
   have HK2 := Za (HK.out.trans hk2)
   clear hk2 HC HK r0 r1 r2 r3
   cases pf
   ·have HA2 := Za (HNO.out rfl)
    clear HNO HYES
    go_wp2
    go_roundw
    case rel => exact ⟨k + 1, by omega, by go_num, HK2, HA2⟩
    case measure => simp [intOf]; omega
   ·have HA2 := Za (HYES.out rfl)
    clear HNO HYES
    go_wp2
    go_ret
    exact ⟨_, rfl, by rw [HA2.out]; exact decide_eq_true (by omega), HK2.out⟩
  ·have e : k = n := by omega
   subst e
   have hkI : ¬ ((k : Int) < (k : Int)) := by omega
   have HA2 : Hid (ps.any Pf.f = false) := by
    have := HA.out
    rw [List.take_of_length_le (by rw [← HN.out]; omega)] at this
    exact this
   go_wp2
   go_ret
   exact ⟨_, rfl, by rw [HA2.out]; rfl, HK.out⟩
theorem Zh3 (g o n c : Nat) (ps : List Pf) (w : World) (hP : FsAt w g o ps) (hn : n = ps.length) (hl : n ≤ 90000) :
  Calls Tryz.prog 85 #[.slice (some ⟨g, o, none⟩) n c] w fun e w' => e = .returned (.bool (ps.any Pf.f)) ∧ Kept nF w w' := by
 have HC := Za (Zp0 g o n c ps w hP hn hl)
 generalize ps.any Pf.f = q at *
 clear hP hn hl
 go_enter Tryz.func85, Tryz.ntmps85
 go_wp2_with fail
 go_enter Tryz.func118, Tryz.ntmps118
 go_wp2_with fail
 refine HC.out.mono ?_
 rintro e W2 ⟨i, rfl, hi, hk2⟩
 have HK2 := Za hk2
 have HI := Za hi
 clear hk2 HC hi
 go_wp2
 go_ret
 exact ⟨by first | rfl | exact congrArg (fun b => Ending.returned (.bool b)) HI.out | (rw [← HI.out]; simp), HK2.out⟩
theorem Zwr : (Tryz.prog.info? 9).map (fun i => (i.zero, i.size, i.bytes)) = some (some (.string ⟨#[]⟩), 1, 16) := by kernel_rfl
theorem Zc1 {w0 W : World} {v : Value} {k : Nat} {xs : List Value} (h : W.ownsRow w0.heap.size 9 1 v k xs) (x : Value) (hone : x.oneCell' = true) (hk : Kept nF w0 W) (hl : k ≤ 900000) :
  ∃ v' w', (Builtin.append_ #[37, 37] 37 #[v, .slice (some ⟨W.heap.size, 0, none⟩) 1 1]).run Tryz.prog (W.alloc (.cells #[x] 9)) = .ok v' w' ∧ w'.ownsRow w0.heap.size 9 1 v' (k + 1) (xs ++ [x]) ∧ Kept nF w0 w' ∧ Kept (fun q => v.ownBlock = some q) W w' ∧ Xx W v v' := by
 obtain ⟨i0, hi, hz0, hz1, hz2⟩ := info_parts Zwr
 obtain ⟨v', w', hr, h2, h3, h4, _⟩ := Zaa (P := Tryz.prog) (W.alloc (.cells #[x] 9)) w0.heap.size 37 37 9 i0 _ 1 16 Tryz.underlying37 hi hz0 hz1 hz2 rfl (by decide) v k xs (h.alloc _) ⟨W.heap.size, 0, none⟩ 1 1 [x] (by simp) (fun j u hj => by
  have hjl := (List.getElem?_eq_some_iff.1 hj).1
  have : j = 0 := by simpa using hjl
  subst this
  rw [Addr.add_lit, Zb _ _ _ _ _ _ (heap_alloc_new W _)]
  simpa using hj) (fun u hu => by simp at hu; subst hu; exact hone) (by unfold maxLen; omega) (by omega) (by have := hk.size; simp; omega)
 have hk1 : Kept (fun k => v.ownBlock = some k) W w' := ((Kept.refl _ W).alloc _).grown h3 (fun k hk => .inr hk)
 exact ⟨v', w', hr, h2, hk.step hk1 (fun i hi e => by have := (h.lt i e).1; omega), hk1, by simpa [Xx] using h4⟩
def labs (ls : List ByteArray) : List Value := ls.map .string
def Yl : List Pf → List ByteArray × List Pf
 | p :: q :: l => if p.k = 0 ∧ q.k = 3 then (p.s :: (Yl l).1, (Yl l).2) else ([], p :: q :: l)
 | [p] => ([], [p])
 | [] => ([], [])
def SlF (w : World) (g : Nat) (v : Value) (ps : List Pf) : Prop := ∃ o c, v = .slice (some ⟨g, o, none⟩) ps.length c ∧ ps.length ≤ c ∧ FsAt w g o ps
def Zyb (g : Nat) (ps : List Pf) (w : World) (e : Ending) (w' : World) : Prop :=
 ∃ lv rv, e = .returned (.tuple #[lv, rv]) ∧ w'.ownsRow w.heap.size 9 1 lv (Yl ps).1.length (labs (Yl ps).1) ∧ SlF w g rv (Yl ps).2 ∧ Kept nF w w'
theorem FsAt.take {w : World} {g o : Nat} {ps : List Pf} (h : FsAt w g o ps) (k : Nat) : FsAt w g o (ps.take k) := fun i p hp => h i p (by
 rw [List.getElem?_take] at hp
 split at hp
 ·exact hp
 ·cases hp)
def Zjk : Value → Nat
 | .slice _ n _ => n
 | _ => 0
theorem Zfx (p q : Pf) (l : List Pf) (h : p.k = 0 ∧ q.k = 3) : Yl (p :: q :: l) = (p.s :: (Yl l).1, (Yl l).2) := by
 rw [Yl, if_pos h]
theorem Zfy (p q : Pf) (l : List Pf) (h : ¬ (p.k = 0 ∧ q.k = 3)) : Yl (p :: q :: l) = ([], p :: q :: l) := by
 rw [Yl, if_neg h]
theorem Zp1 (g o n c : Nat) (ps : List Pf) (w : World) (hP : FsAt w g o ps) (hn : n = ps.length) (hl : n ≤ 90000) (hc : n ≤ c) :
  Calls Tryz.prog 53 #[.slice (some ⟨g, o, none⟩) n c] w (Zyb g ps w) := by
 have HP := Za hP
 have HB0 : Hid (w.ownsRow w.heap.size 9 1 (.slice none 0 0) 0 []) := World.ownsRow_nil _ _ _ _
 clear hP
 go_enter Tryz.func53, Tryz.ntmps53
 go_wp2_with fail
 go_loopw [0, 4] (fun lv bv wr => ∃ (k : Nat) (ls : List ByteArray) (qs : List Pf) (o' n' c' : Nat), lv = .slice (some ⟨g, o', none⟩) n' c' ∧ Hid (FsAt w g o' qs) ∧ n' = qs.length ∧ n' ≤ c' ∧ n' + k ≤ n ∧ ls.length = k ∧ Hid (Yl ps = (ls ++ (Yl qs).1, (Yl qs).2)) ∧ Hid (wr.ownsRow w.heap.size 9 1 bv k (labs ls)) ∧ Hid (Kept nF w wr)) (fun lv _ _ => Zjk lv)
 case atStart => exact ⟨0, [], ps, o, n, c, rfl, HP, hn, hc, by omega, rfl, by simp [Hid], HB0, Kept.refl _ _⟩
 case round =>
  clear HP HB0 hn hc
  obtain ⟨k, ls, qs, o', n', c', rfl, HQ, hn', hc', hkn, hlk, HLP, HBV, HK⟩ := hrel
  have hown := HBV.out
  by_cases h1 : 1 < n'
  ·obtain ⟨p, q, l, rfl⟩ : ∃ p q l, qs = p :: q :: l := by
    match qs, hn' with
    | [], h => simp at h; omega
    | [p], h => simp at h; omega
    | p :: q :: l, _ => exact ⟨p, q, l, rfl⟩
   simp only [List.length_cons] at hn'
   have h1I : (1 : Int) < (n' : Int) := by omega
   have h2c : (2 : Int) ≤ (c' : Int) := by omega
   have hka : Kept nF wr (wr.alloc (.cells #[.int .i64 0, .int .i64 3] 3)) := (Kept.refl _ _).alloc _
   have hba := heap_alloc_new wr (.cells #[.int .i64 0, .int .i64 3] 3)
   have HF := Za (Zgd g o' 2 c' wr.heap.size 2 2 [p, q] [0, 3] (wr.alloc (.cells #[.int .i64 0, .int .i64 3] 3)) (((HQ.out.take 2).kept (HK.out.trans hka) id)) (fun i x hx => by
    rw [Zb _ _ i _ _ _ hba]
    rcases i with _ | _ | i <;> simp at hx ⊢ <;> exact hx) rfl rfl (by omega) (by omega))
   have hdec : decide ([p, q].map Pf.k = [0, 3]) = decide (p.k = 0 ∧ q.k = 3) := by simp
   rw [hdec] at HF
   have HKA := Za (HK.out.trans hka)
   have HBA := Za (hka.ownsRow hown (fun _ _ f => f))
   by_cases hpq : p.k = 0 ∧ q.k = 3
   ·rw [decide_eq_true hpq] at HF
    have HL2 : Hid (Yl ps = ((ls ++ [p.s]) ++ (Yl l).1, (Yl l).2)) := by
     have := HLP.out
     rw [Zfx p q l hpq] at this
     show Yl ps = _
     rw [this]
     simp
    obtain ⟨va, vc, hbv⟩ := Zd hown
    subst hbv
    have HQ0 := Za (HQ.out 0 p rfl)
    have HQ2 : Hid (FsAt w g (o' + 8) l) := HQ.out.drop 2
    clear hba hka hown HK HBV HLP HQ hdec hpq
    go_wp2_with fail
    refine HF.out.mono ?_
    rintro e W2 ⟨rfl, hk2⟩
    have hkw := HKA.out.trans hk2
    have hown2 := hk2.ownsRow HBA.out (fun _ _ f => f)
    have hr1 : W2.cell? ⟨g, o' + 1, none⟩ = some (.string p.s) := by
     have := hkw.cell (HQ0.out 1 (.string p.s) rfl) id
     simpa using this
    obtain ⟨v', w', hr, ho, hk0, hk1, hn0⟩ := Zc1 hown2 (.string p.s) rfl hkw (by omega)
    have HR := Za hr
    have HK3 := Za hk0
    have HO3 : Hid (w'.ownsRow w.heap.size 9 1 v' (k + 1) (labs (ls ++ [p.s]))) := by
     show w'.ownsRow _ _ _ _ _ _
     unfold labs
     rw [List.map_append]
     exact ho
    obtain ⟨va2, vc2, hbv2⟩ := Zd ho
    obtain ⟨k2, hk2e⟩ := nmd (k + 1)
    rw [← hk2e] at hbv2
    subst hbv2
    rw [← hk2e] at HO3
    have HKE := Za hk2e
    clear hk2e
    clear hr ho hk0 hk1 hn0 hown2 hkw hk2 HF HKA HBA
    go_wp2_with (at_builtin; refine Zr rfl (.tmp 14) (.tmp 19) 37 37 rfl _ _ rfl rfl _ w' HR.out ?_)
    go_roundw
    case rel => exact ⟨k2, ls ++ [p.s], l, (if c' = 2 then o' else o' + 8), n' - 2, c' - 2, by rw [show n' - 2 = l.length by omega]; split <;> rfl, (by
     split
     ·rw [show l = [] from List.length_eq_zero_iff.1 (by omega)]
      exact fun i p hp => by simp at hp
     ·exact HQ2), by omega, by omega, by have := HKE.out; omega, by have := HKE.out; simp only [List.length_append, List.length_cons, List.length_nil]; omega, HL2, HO3, HK3⟩
    case measure => simp [Zjk]; omega
   ·rw [decide_eq_false hpq] at HF
    have HL2 : Hid (Yl ps = (ls, p :: q :: l)) := by
     have := HLP.out
     rw [Zfy p q l hpq] at this
     show Yl ps = _
     rw [this]
     simp
    obtain ⟨va, vc, hbv⟩ := Zd hown
    subst hbv
    clear hba hka hown HK HBV HLP hdec hpq
    go_wp2_with fail
    refine HF.out.mono ?_
    rintro e W2 ⟨rfl, hk2⟩
    have HK3 := Za (HKA.out.trans hk2)
    have HO3 := Za (hk2.ownsRow HBA.out (fun _ _ f => f))
    clear hk2 HF HKA HBA
    go_wp2
    refine bodyPost_ret (results_tmp2 rfl _ _ _) rfl ?_
    refine ⟨_, _, rfl, ?_, ?_, HK3.out⟩
    ·rw [HL2.out, hlk]; exact HO3.out
    ·rw [HL2.out]
     show SlF w g _ (p :: q :: l)
     exact ⟨o', c', by simp [hn'], by simp only [List.length_cons]; omega, HQ.out⟩
  ·have h1I : ¬ ((1 : Int) < (n' : Int)) := by omega
   have HL2 : Hid (Yl ps = (ls, qs)) := by
    have := HLP.out
    have hq : Yl qs = ([], qs) := by
     match qs, hn' with
     | [], h => rfl
     | [p], h => rfl
     | p :: q :: l, h => simp at h; omega
    rw [hq] at this
    show Yl ps = _
    rw [this]
    simp
   obtain ⟨va, vc, hbv⟩ := Zd hown
   subst hbv
   clear hown HLP
   go_wp2
   refine bodyPost_ret (results_tmp2 rfl _ _ _) rfl ?_
   refine ⟨_, _, rfl, ?_, ?_, HK.out⟩
   ·rw [HL2.out, hlk]; exact HBV.out
   ·rw [HL2.out]
    show SlF w g _ qs
    exact ⟨o', c', rfl, by omega, HQ.out⟩
end Go.Proofs.YtgoabnehdmdikaaGreatDoor
